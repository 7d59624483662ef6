/- The kit: what stays, rows, terms and steps in memory. -/
import Derived.Test.YtnlpiaejfmdckaaDoorProg
import Derived.WalkKit
import Derived.WalkSpells
import Derived.WalkLawsBesides
import Derived.Lib.Hide
import Derived.RowKit
import Derived.Below
import Derived.Laws.Rows
import Derived.Deep.DeepMust
import Derived.Deep.DeepCutAuto
import Derived.Deep.AppendLies
import Derived.Deep.RegionHeld3
import Derived.Deep.RegionWith
import Derived.Deep.QuietTactic
import Derived.StillTailTactics
import Derived.BigQuiet
import Derived.WalkSmall
import Derived.IntWalk
import Derived.OneCell
import Derived.Laws.AppendOwnNone
import Derived.Lib.SmallJoins
namespace Go.Proofs.YtnlpiaejfmdckaaDoor
open Go.RowKit
set_option linter.unusedVariables false
set_option linter.unusedSimpArgs false
theorem ret_bool {a b : Bool} (h : a = b) : Ending.returned (.bool a) = .returned (.bool b) := by rw [h]
theorem ret_int {k : IntKind} {a b : Int} (h : a = b) : Ending.returned (.int k a) = .returned (.int k b) := by rw [h]
def BK (w0 w' : World) : Prop := Below w0.heap.size w0 w'
theorem BK.refl (w : World) : BK w w := Below.refl _ _
theorem BK.bl {a b : World} (h : BK a b) : Below a.heap.size a b := h
theorem bk_tr {a b c : World} (h : BK a b) (k : BK b c) : BK a c := Below.trans h (Below.mono k h.bl.size)
theorem bk_drew {w0 wc : World} (h : BK w0 wc) : BK w0 wc.drew := ⟨h.os, h.tape, h.output, h.size, h.block⟩
theorem bk_drewN {a b : World} (h : BK a b) (q : Nat) : BK a (b.drewN q) := ⟨h.os, h.tape, h.output, h.size, h.block⟩
theorem of_drew {a b : World} (h : BK a.drew b) : BK a b := ⟨h.os, h.tape, h.output, h.size, h.block⟩
theorem bk_alloc {w0 w : World} (h : BK w0 w) (o : Obj) : BK w0 (w.alloc o) := h.bl.alloc h.bl.size o
theorem bk_size {w0 w : World} (h : BK w0 w) : w0.heap.size ≤ w.heap.size := h.bl.size
theorem bk_set {w0 w : World} (h : BK w0 w) (p : Addr) (x : Value) (hp : w0.heap.size ≤ p.block) : BK w0 (w.setCell p x) := h.bl.setCell hp x
theorem bk_block {w0 w : World} (h : BK w0 w) {b : Nat} (hb : b < w0.heap.size) : w.heap[b]? = w0.heap[b]? := h.bl.block b hb
theorem sz1 (w : World) (o : Obj) : (w.alloc o).heap.size = w.heap.size + 1 := by simp
theorem cellBk {w w' : World} {b j : Nat} {v : Value} (h : w.cell? ⟨b, j, none⟩ = some v) (hb : BK w w') : w'.cell? ⟨b, j, none⟩ = some v := (hb.bl.cell (p := ⟨b, j, none⟩) (World.block_lt_of_cell? w _ h)).trans h
theorem cell_at {w w' : World} {b j : Nat} (h : w'.heap[b]? = w.heap[b]?) : w'.cell? ⟨b, j, none⟩ = w.cell? ⟨b, j, none⟩ := by unfold World.cell?; rw [h]
theorem own_at {w w' : World} {B e sz n : Nat} {v : Value} {xs : List Value} (o : w.ownsRow B e sz v n xs) (h : ∀ k, v.ownBlock = some k → w'.heap[k]? = w.heap[k]?) : w'.ownsRow B e sz v n xs := by
  refine ⟨o.1, ?_⟩
  rcases o.2 with hn | ⟨g, cap, cur, hv, hb, hg, rest⟩
  · exact .inl hn
  · exact .inr ⟨g, cap, cur, hv, hb, (h g (by rw [hv]; rfl)).trans hg, rest⟩
theorem own_below {w w' : World} {B e sz n : Nat} {v : Value} {xs : List Value} (o : w.ownsRow B e sz v n xs) (hb : BK w w') : w'.ownsRow B e sz v n xs :=
  own_at o fun k hk => hb.bl.block k (o.lt k hk).2
theorem own_mono {w : World} {B B' e sz n : Nat} {v : Value} {xs : List Value} (o : w.ownsRow B e sz v n xs) (h : B' ≤ B) : w.ownsRow B' e sz v n xs := by
  refine ⟨o.1, ?_⟩
  rcases o.2 with hn | ⟨g, cap, cur, hv, hb, rest⟩
  · exact .inl hn
  · exact .inr ⟨g, cap, cur, hv, Nat.le_trans h hb, rest⟩
theorem own_shape {w : World} {B e sz n : Nat} {v : Value} {xs : List Value} (h : w.ownsRow B e sz v n xs) : ∃ p c, v = .slice p n c := by
  rcases h.2 with ⟨hv, h0⟩ | ⟨g, cap, cur, hv, _⟩
  · exact ⟨none, 0, by rw [hv, h0]⟩
  · exact ⟨_, cap, hv⟩
theorem own_tag {w : World} {B e sz n : Nat} {v : Value} {xs : List Value} (h : w.ownsRow B e sz v n xs) {g : Nat} (hg : v.ownBlock = some g) : ∃ cur, w.heap[g]? = some (.cells cur e (0, 0)) := by
  rcases h.2 with ⟨hv, h0⟩ | ⟨g', cap, cur, hv, hb, hc, _⟩
  · rw [hv] at hg; cases hg
  · rw [hv] at hg
    obtain rfl : g' = g := by simpa [Value.ownBlock] using hg
    exact ⟨cur, hc⟩
theorem wp_region_class {P : Program} {C : World → Prop} {id : Nat} {Q : Exit → Act → World → Prop} {a : Act} {w : World} {l : List Oper} (hm : P.follows .mixedOrders = true) (hB : Region.lexB .any l.toArray = true) (hC : C w.drew)
    (h : wpQuiet P l.toArray C (fun a' => ∀ w', C w' → Q .normal a' w') l a) : (Code.region id l.toArray true).wp P Q a w :=
  wp_region_quiet hm hB hC (by simpa using h)
/-- what a call leaves: outside the footprint all is as it was, and the new footprint is old or new memory -/
structure Step (w w' : World) (F F' : Nat → Prop) : Prop where
  os : w'.os = w.os
  tape : w'.tape = w.tape
  output : w'.output = w.output
  size : w.heap.size ≤ w'.heap.size
  block : ∀ k, k < w.heap.size → ¬ F k → w'.heap[k]? = w.heap[k]?
  sub : ∀ k, F' k → F k ∨ w.heap.size ≤ k
theorem Step.trans {a b c : World} {F G H : Nat → Prop} (h : Step a b F G) (k : Step b c G H) : Step a c F H :=
  ⟨k.os.trans h.os, k.tape.trans h.tape, k.output.trans h.output, Nat.le_trans h.size k.size,
   fun i hi hn => (k.block i (Nat.lt_of_lt_of_le hi h.size) (fun g => by rcases h.sub i g with q | q; exact hn q; omega)).trans (h.block i hi hn),
   fun i hi => by
    rcases k.sub i hi with q | q
    · exact h.sub i q
    · exact .inr (Nat.le_trans h.size q)⟩
theorem Step.refl (w : World) (F : Nat → Prop) : Step w w F F := ⟨rfl, rfl, rfl, Nat.le_refl _, fun _ _ _ => rfl, fun _ h => .inl h⟩
theorem Step.bk {w w' : World} {F : Nat → Prop} (h : BK w w') : Step w w' F F :=
  ⟨h.bl.os, h.bl.tape, h.bl.output, h.bl.size, fun k hk _ => h.bl.block k hk, fun _ h => .inl h⟩
theorem Step.bk_new {w0 w w' : World} {F F' : Nat → Prop} (h : BK w0 w) (s : Step w w' F F') (hF : ∀ k, F k → w0.heap.size ≤ k) : BK w0 w' :=
  ⟨s.os.trans h.bl.os, s.tape.trans h.bl.tape, s.output.trans h.bl.output, Nat.le_trans h.bl.size s.size, fun k hk => (s.block k (Nat.lt_of_lt_of_le hk h.bl.size) (fun g => by have := hF k g; omega)).trans (h.bl.block k hk)⟩
theorem Step.to_drew {w w' : World} {F F' : Nat → Prop} (h : Step w w' F F') : Step w w'.drew F F' := ⟨h.os, h.tape, h.output, h.size, h.block, h.sub⟩
theorem Step.drew {w w' : World} {F F' : Nat → Prop} (h : Step w.drew w' F F') : Step w w' F F' := ⟨h.os, h.tape, h.output, h.size, h.block, h.sub⟩
def oneF (b : Nat) : Nat → Prop := fun k => k = b
theorem step_set {w : World} {b : Nat} (i : Nat) (v : Value) : Step w (w.setCell ⟨b, i, none⟩ v) (oneF b) (oneF b) :=
  ⟨rfl, rfl, rfl, by simp [World.setCell], fun k hk hn => heap_setCell_other w ⟨b, i, none⟩ k v (fun e => hn e), fun k hk => .inl hk⟩
/-! terms -/
inductive T where
  | mk (op wd : Int) (vl : Nat) (nm : ByteArray) (ts : List T)
theorem T.ind {P : T → Prop} (h : ∀ op wd vl nm ts, (∀ t ∈ ts, P t) → P (.mk op wd vl nm ts)) (t : T) : P t :=
  T.rec (motive_1 := P) (motive_2 := fun l => ∀ t ∈ l, P t) (fun op wd vl nm ts hl => h op wd vl nm ts hl) (fun t ht => by cases ht) (fun a l ha hl t ht => by
    rcases List.mem_cons.1 ht with rfl | ht
    · exact ha
    · exact hl t ht) t
def T.op : T → Int | .mk op _ _ _ _ => op
def T.wd : T → Int | .mk _ wd _ _ _ => wd
def T.vl : T → Nat | .mk _ _ vl _ _ => vl
def T.nm : T → ByteArray | .mk _ _ _ nm _ => nm
def T.ts : T → List T | .mk _ _ _ _ ts => ts
def C5 (w : World) (b o : Nat) (x0 x1 x2 x3 x4 : Value) : Prop := w.cell? ⟨b, o, none⟩ = some x0 ∧ w.cell? ⟨b, o + 1, none⟩ = some x1 ∧ w.cell? ⟨b, o + 2, none⟩ = some x2 ∧ w.cell? ⟨b, o + 3, none⟩ = some x3 ∧ w.cell? ⟨b, o + 4, none⟩ = some x4
theorem C5.at {w w' : World} {b o : Nat} {x0 x1 x2 x3 x4 : Value} (h : C5 w b o x0 x1 x2 x3 x4) (hb : w'.heap[b]? = w.heap[b]?) : C5 w' b o x0 x1 x2 x3 x4 := by
  obtain ⟨a0, a1, a2, a3, a4⟩ := h
  exact ⟨(cell_at hb).trans a0, (cell_at hb).trans a1, (cell_at hb).trans a2, (cell_at hb).trans a3, (cell_at hb).trans a4⟩
theorem C5.bk {w w' : World} {b o : Nat} {x0 x1 x2 x3 x4 : Value} (h : C5 w b o x0 x1 x2 x3 x4) (hb : BK w w') : C5 w' b o x0 x1 x2 x3 x4 := h.at (bk_block hb (World.block_lt_of_cell? w _ h.1))
mutual
/-- a term lies at a place; what lies behind it keeps to D -/
def AtD (D : Nat → Prop) : T → World → Nat → Nat → Prop
  | .mk op wd vl nm ts, w, b, o => ∃ p c, C5 w b o (.int .i64 op) (.int .i64 wd) (.int .u64 vl) (.string nm) (.slice p ts.length c) ∧ ((ts.length = 0 ∧ (p = none → c = 0)) ∨ ∃ b' o', p = some ⟨b', o', none⟩ ∧ D b' ∧ AtDL D ts w b' o' ∧ ts.length ≤ c)
def AtDL (D : Nat → Prop) : List T → World → Nat → Nat → Prop
  | [], _, _, _ => True
  | t :: ts, w, b, o => AtD D t w b o ∧ AtDL D ts w b (o + 5)
end
def RowD (D : Nat → Prop) (w : World) (p : Option Addr) (c : Nat) (ts : List T) : Prop := (ts.length = 0 ∧ (p = none → c = 0)) ∨ ∃ b o, p = some ⟨b, o, none⟩ ∧ D b ∧ AtDL D ts w b o ∧ ts.length ≤ c
theorem atD_mk {D : Nat → Prop} {w : World} {b o : Nat} {op wd : Int} {vl : Nat} {nm : ByteArray} {ts : List T} : AtD D (.mk op wd vl nm ts) w b o ↔ ∃ p c, C5 w b o (.int .i64 op) (.int .i64 wd) (.int .u64 vl) (.string nm) (.slice p ts.length c) ∧ RowD D w p c ts := by
  rw [AtD]; rfl
theorem atDL_get : ∀ {ts : List T} {D : Nat → Prop} {w : World} {b o : Nat}, AtDL D ts w b o → ∀ k (h : k < ts.length), AtD D ts[k] w b (o + k * 5)
  | t :: ts, D, w, b, o, h, 0, _ => by rw [AtDL] at h; simpa using h.1
  | t :: ts, D, w, b, o, h, k + 1, hk => by
    rw [AtDL] at h
    have := atDL_get h.2 k (by simpa using hk)
    rw [show o + (k + 1) * 5 = o + 5 + k * 5 by omega]
    simpa using this
theorem atDL_of : ∀ {ts : List T} {D : Nat → Prop} {w : World} {b o : Nat}, (∀ k (h : k < ts.length), AtD D ts[k] w b (o + k * 5)) → AtDL D ts w b o
  | [], D, w, b, o, h => by rw [AtDL]; trivial
  | t :: ts, D, w, b, o, h => by
    rw [AtDL]
    have h0 := h 0 (by simp)
    rw [Nat.zero_mul, Nat.add_zero] at h0
    refine ⟨h0, atDL_of fun k hk => ?_⟩
    have := h (k + 1) (by simpa using hk)
    rw [show o + 5 + k * 5 = o + (k + 1) * 5 by omega]
    exact this
theorem atDL_keep {w w' : World} {D D' : Nat → Prop} : ∀ (ts : List T), (∀ t ∈ ts, ∀ b o, w'.heap[b]? = w.heap[b]? → AtD D t w b o → AtD D' t w' b o) → ∀ b o, w'.heap[b]? = w.heap[b]? → AtDL D ts w b o → AtDL D' ts w' b o
  | [], _, _, _, _, _ => by rw [AtDL]; trivial
  | t :: ts, h, b, o, hb, ha => by
    rw [AtDL] at ha ⊢
    exact ⟨h t (by simp) b o hb ha.1, atDL_keep ts (fun t ht => h t (by simp [ht])) b (o + 5) hb ha.2⟩
theorem atD_keep {w w' : World} {D D' : Nat → Prop} (hk : ∀ k, D k → w'.heap[k]? = w.heap[k]? ∧ D' k) (t : T) : ∀ b o, w'.heap[b]? = w.heap[b]? → AtD D t w b o → AtD D' t w' b o := by
  induction t using T.ind with
  | h op wd vl nm ts ih =>
    intro b o hb h
    rw [atD_mk] at h ⊢
    obtain ⟨p, c, h1, h3⟩ := h
    refine ⟨p, c, h1.at hb, ?_⟩
    rcases h3 with h3 | ⟨b', o', h3, h4, h5, h6⟩
    · exact .inl h3
    · exact .inr ⟨b', o', h3, (hk b' h4).2, atDL_keep ts ih b' o' (hk b' h4).1 h5, h6⟩
theorem RowD.keep {w w' : World} {D D' : Nat → Prop} {p : Option Addr} {c : Nat} {ts : List T} (h : RowD D w p c ts) (hk : ∀ k, D k → w'.heap[k]? = w.heap[k]? ∧ D' k) : RowD D' w' p c ts := by
  rcases h with h | ⟨b, o, h1, h2, h3, h4⟩
  · exact .inl h
  · exact .inr ⟨b, o, h1, (hk b h2).2, atDL_keep ts (fun t _ => atD_keep hk t) b o (hk b h2).1 h3, h4⟩
/-- the memory from a place on -/
def mem (lo : Nat) (w : World) : Nat → Prop := fun k => lo ≤ k ∧ k < w.heap.size
/-- memory from a place on, one block aside -/
def memX (lo g : Nat) (w : World) : Nat → Prop := fun k => lo ≤ k ∧ k < w.heap.size ∧ k ≠ g
theorem mem_bk {w w' : World} {lo lo' : Nat} (hb : BK w w') (hl : lo' ≤ lo) : ∀ k, mem lo w k → w'.heap[k]? = w.heap[k]? ∧ mem lo' w' k :=
  fun k hk => ⟨bk_block hb hk.2, Nat.le_trans hl hk.1, Nat.lt_of_lt_of_le hk.2 (bk_size hb)⟩
theorem memX_bk {w w' : World} {lo g : Nat} (hb : BK w w') : ∀ k, memX lo g w k → w'.heap[k]? = w.heap[k]? ∧ memX lo g w' k :=
  fun k hk => ⟨bk_block hb hk.2.1, hk.1, Nat.lt_of_lt_of_le hk.2.1 (bk_size hb), hk.2.2⟩
theorem RowD.bk {w w' : World} {lo lo' : Nat} {p : Option Addr} {c : Nat} {ts : List T} (h : RowD (mem lo w) w p c ts) (hb : BK w w') (hl : lo' ≤ lo) : RowD (mem lo' w') w' p c ts := h.keep (mem_bk hb hl)
theorem RowD.get {D : Nat → Prop} {w : World} {p : Option Addr} {c : Nat} {ts : List T} (h : RowD D w p c ts) {k : Nat} (hk : k < ts.length) : ∃ b o op wd vl nm us q d, p = some ⟨b, o, none⟩ ∧ D b ∧ ts[k] = .mk op wd vl nm us ∧ C5 w b (o + k * 5) (.int .i64 op) (.int .i64 wd) (.int .u64 vl) (.string nm) (.slice q us.length d) ∧ RowD D w q d us := by
  rcases h with h | ⟨b, o, h1, h2, h3, h4⟩
  · omega
  · have h5 := atDL_get h3 k hk
    generalize ht : ts[k] = t at h5
    cases t with
    | mk op wd vl nm us =>
      rw [atD_mk] at h5
      obtain ⟨q, d, h6, h8⟩ := h5
      exact ⟨b, o, op, wd, vl, nm, us, q, d, h1, h2, rfl, h6, h8⟩
/-! numbers -/
def RowI (D : Nat → Prop) (w : World) (p : Option Addr) (c : Nat) (zs : List Int) : Prop := (zs.length = 0 ∧ (p = none → c = 0)) ∨ ∃ b o, p = some ⟨b, o, none⟩ ∧ D b ∧ (∀ k (h : k < zs.length), w.cell? ⟨b, o + k, none⟩ = some (.int .i64 zs[k])) ∧ zs.length ≤ c
theorem RowI.keep {w w' : World} {D D' : Nat → Prop} {p : Option Addr} {c : Nat} {zs : List Int} (h : RowI D w p c zs) (hk : ∀ k, D k → w'.heap[k]? = w.heap[k]? ∧ D' k) : RowI D' w' p c zs := by
  rcases h with h | ⟨b, o, h1, h2, h3, h4⟩
  · exact .inl h
  · exact .inr ⟨b, o, h1, (hk b h2).2, fun k h => (cell_at (hk b h2).1).trans (h3 k h), h4⟩
theorem RowI.bk {w w' : World} {lo lo' : Nat} {p : Option Addr} {c : Nat} {zs : List Int} (h : RowI (mem lo w) w p c zs) (hb : BK w w') (hl : lo' ≤ lo) : RowI (mem lo' w') w' p c zs := h.keep (mem_bk hb hl)
theorem RowI.get {D : Nat → Prop} {w : World} {p : Option Addr} {c : Nat} {zs : List Int} (h : RowI D w p c zs) {k : Nat} (hk : k < zs.length) : ∃ b o, p = some ⟨b, o, none⟩ ∧ D b ∧ w.cell? ⟨b, o + k, none⟩ = some (.int .i64 zs[k]) := by
  rcases h with h | ⟨b, o, h1, h2, h3, h4⟩
  · omega
  · exact ⟨b, o, h1, h2, h3 k hk⟩
/-! substitutions -/
structure U where
  nm : ByteArray
  t : T
def C6 (w : World) (b o : Nat) (x0 x1 x2 x3 x4 x5 : Value) : Prop := w.cell? ⟨b, o, none⟩ = some x0 ∧ C5 w b (o + 1) x1 x2 x3 x4 x5
def AtU (D : Nat → Prop) (u : U) (w : World) (b o : Nat) : Prop := ∃ p c, C6 w b o (.string u.nm) (.int .i64 u.t.op) (.int .i64 u.t.wd) (.int .u64 u.t.vl) (.string u.t.nm) (.slice p u.t.ts.length c) ∧ RowD D w p c u.t.ts
def RowU (D : Nat → Prop) (w : World) (p : Option Addr) (c : Nat) (us : List U) : Prop := (us.length = 0 ∧ (p = none → c = 0)) ∨ ∃ b o, p = some ⟨b, o, none⟩ ∧ D b ∧ (∀ k (h : k < us.length), AtU D us[k] w b (o + k * 6)) ∧ us.length ≤ c
theorem C6.at {w w' : World} {b o : Nat} {x0 x1 x2 x3 x4 x5 : Value} (h : C6 w b o x0 x1 x2 x3 x4 x5) (hb : w'.heap[b]? = w.heap[b]?) : C6 w' b o x0 x1 x2 x3 x4 x5 := ⟨(cell_at hb).trans h.1, h.2.at hb⟩
theorem AtU.keep {w w' : World} {D D' : Nat → Prop} {u : U} {b o : Nat} (h : AtU D u w b o) (hb : w'.heap[b]? = w.heap[b]?) (hk : ∀ k, D k → w'.heap[k]? = w.heap[k]? ∧ D' k) : AtU D' u w' b o := by
  obtain ⟨p, c, h1, h2⟩ := h
  exact ⟨p, c, h1.at hb, h2.keep hk⟩
theorem RowU.keep {w w' : World} {D D' : Nat → Prop} {p : Option Addr} {c : Nat} {us : List U} (h : RowU D w p c us) (hk : ∀ k, D k → w'.heap[k]? = w.heap[k]? ∧ D' k) : RowU D' w' p c us := by
  rcases h with h | ⟨b, o, h1, h2, h3, h4⟩
  · exact .inl h
  · exact .inr ⟨b, o, h1, (hk b h2).2, fun k h => (h3 k h).keep (hk b h2).1 hk, h4⟩
theorem RowU.bk {w w' : World} {lo lo' : Nat} {p : Option Addr} {c : Nat} {us : List U} (h : RowU (mem lo w) w p c us) (hb : BK w w') (hl : lo' ≤ lo) : RowU (mem lo' w') w' p c us := h.keep (mem_bk hb hl)
/-! steps -/
structure S where
  k : Int
  rf : List Int
  ru : Int
  sb : List U
  a : T
  b : T
/-- where a step's parts lie -/
structure Pt where
  p1 : Option Addr
  c1 : Nat
  p2 : Option Addr
  c2 : Nat
  p3 : Option Addr
  c3 : Nat
  p4 : Option Addr
  c4 : Nat
def cS (s : S) (q : Pt) : Array Value := #[.int .i64 s.k, .slice q.p1 s.rf.length q.c1, .int .i64 s.ru, .slice q.p2 s.sb.length q.c2, .int .i64 s.a.op, .int .i64 s.a.wd, .int .u64 s.a.vl, .string s.a.nm, .slice q.p3 s.a.ts.length q.c3, .int .i64 s.b.op, .int .i64 s.b.wd, .int .u64 s.b.vl, .string s.b.nm, .slice q.p4 s.b.ts.length q.c4]
/-- the parts -/
structure Ps (D : Nat → Prop) (w : World) (s : S) (q : Pt) : Prop where
  rf : RowI D w q.p1 q.c1 s.rf
  sb : RowU D w q.p2 q.c2 s.sb
  a : RowD D w q.p3 q.c3 s.a.ts
  b : RowD D w q.p4 q.c4 s.b.ts
theorem Ps.keep {w w' : World} {D D' : Nat → Prop} {s : S} {q : Pt} (h : Ps D w s q) (hk : ∀ k, D k → w'.heap[k]? = w.heap[k]? ∧ D' k) : Ps D' w' s q := ⟨h.rf.keep hk, h.sb.keep hk, h.a.keep hk, h.b.keep hk⟩
theorem Ps.bk {w w' : World} {lo lo' : Nat} {s : S} {q : Pt} (h : Ps (mem lo w) w s q) (hb : BK w w') (hl : lo' ≤ lo) : Ps (mem lo' w') w' s q := h.keep (mem_bk hb hl)
/-- cells from a place on -/
def Cs (w : World) (b o : Nat) (xs : Array Value) : Prop := ∀ j v, xs[j]? = some v → w.cell? ⟨b, o + j, none⟩ = some v
theorem Cs.at {w w' : World} {b o : Nat} {xs : Array Value} (h : Cs w b o xs) (hb : w'.heap[b]? = w.heap[b]?) : Cs w' b o xs := fun j v hj => (cell_at hb).trans (h j v hj)
theorem Cs.bk {w w' : World} {b o : Nat} {xs : Array Value} (h : Cs w b o xs) (hb : BK w w') (h0 : 0 < xs.size) : Cs w' b o xs := by
  have := h 0 xs[0] (by simp [h0])
  exact h.at (bk_block hb (World.block_lt_of_cell? w _ this))
theorem Cs.new (w : World) (xs : Array Value) (t : Nat) : Cs (w.alloc (.cells xs t)) w.heap.size 0 xs := fun j v hj => by
  rw [Nat.zero_add, cell_of_row _ w.heap.size j xs t (0, 0) (heap_alloc_new w (.cells xs t))]
  exact hj
def AtS (D : Nat → Prop) (s : S) (w : World) (b o : Nat) : Prop := ∃ q, Cs w b o (cS s q) ∧ Ps D w s q
def RowS (D : Nat → Prop) (w : World) (p : Option Addr) (c : Nat) (ss : List S) : Prop := (ss.length = 0 ∧ (p = none → c = 0)) ∨ ∃ b o, p = some ⟨b, o, none⟩ ∧ D b ∧ (∀ k (h : k < ss.length), AtS D ss[k] w b (o + k * 14)) ∧ ss.length ≤ c
theorem AtS.keep {w w' : World} {D D' : Nat → Prop} {s : S} {b o : Nat} (h : AtS D s w b o) (hb : w'.heap[b]? = w.heap[b]?) (hk : ∀ k, D k → w'.heap[k]? = w.heap[k]? ∧ D' k) : AtS D' s w' b o := by
  obtain ⟨q, h1, h2⟩ := h
  exact ⟨q, h1.at hb, h2.keep hk⟩
theorem RowS.keep {w w' : World} {D D' : Nat → Prop} {p : Option Addr} {c : Nat} {ss : List S} (h : RowS D w p c ss) (hk : ∀ k, D k → w'.heap[k]? = w.heap[k]? ∧ D' k) : RowS D' w' p c ss := by
  rcases h with h | ⟨b, o, h1, h2, h3, h4⟩
  · exact .inl h
  · exact .inr ⟨b, o, h1, (hk b h2).2, fun k h => (h3 k h).keep (hk b h2).1 hk, h4⟩
theorem RowS.bk {w w' : World} {lo lo' : Nat} {p : Option Addr} {c : Nat} {ss : List S} (h : RowS (mem lo w) w p c ss) (hb : BK w w') (hl : lo' ≤ lo) : RowS (mem lo' w') w' p c ss := h.keep (mem_bk hb hl)
theorem RowS.get {D : Nat → Prop} {w : World} {p : Option Addr} {c : Nat} {ss : List S} (h : RowS D w p c ss) {k : Nat} (hk : k < ss.length) : ∃ b o q, p = some ⟨b, o, none⟩ ∧ D b ∧ Cs w b (o + k * 14) (cS ss[k] q) ∧ Ps D w ss[k] q := by
  rcases h with h | ⟨b, o, h1, h2, h3, h4⟩
  · omega
  · obtain ⟨q, h5, h6⟩ := h3 k hk
    exact ⟨b, o, q, h1, h2, h5, h6⟩
/-- the fourteen cells, one by one -/
theorem Cs.all {w : World} {b o : Nat} {s : S} {q : Pt} (h : Cs w b o (cS s q)) : w.cell? ⟨b, o, none⟩ = some (.int .i64 s.k) ∧ w.cell? ⟨b, o + 1, none⟩ = some (.slice q.p1 s.rf.length q.c1) ∧ w.cell? ⟨b, o + 2, none⟩ = some (.int .i64 s.ru) ∧ w.cell? ⟨b, o + 3, none⟩ = some (.slice q.p2 s.sb.length q.c2) ∧ w.cell? ⟨b, o + 4, none⟩ = some (.int .i64 s.a.op) ∧ w.cell? ⟨b, o + 5, none⟩ = some (.int .i64 s.a.wd) ∧ w.cell? ⟨b, o + 6, none⟩ = some (.int .u64 s.a.vl) ∧ w.cell? ⟨b, o + 7, none⟩ = some (.string s.a.nm) ∧ w.cell? ⟨b, o + 8, none⟩ = some (.slice q.p3 s.a.ts.length q.c3) ∧ w.cell? ⟨b, o + 9, none⟩ = some (.int .i64 s.b.op) ∧ w.cell? ⟨b, o + 10, none⟩ = some (.int .i64 s.b.wd) ∧ w.cell? ⟨b, o + 11, none⟩ = some (.int .u64 s.b.vl) ∧ w.cell? ⟨b, o + 12, none⟩ = some (.string s.b.nm) ∧ w.cell? ⟨b, o + 13, none⟩ = some (.slice q.p4 s.b.ts.length q.c4) :=
  ⟨h 0 _ rfl, h 1 _ rfl, h 2 _ rfl, h 3 _ rfl, h 4 _ rfl, h 5 _ rfl, h 6 _ rfl, h 7 _ rfl, h 8 _ rfl, h 9 _ rfl, h 10 _ rfl, h 11 _ rfl, h 12 _ rfl, h 13 _ rfl⟩
end Go.Proofs.YtnlpiaejfmdckaaDoor
