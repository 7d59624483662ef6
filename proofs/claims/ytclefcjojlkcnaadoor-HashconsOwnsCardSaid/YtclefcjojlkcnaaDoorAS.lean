/- Acts; what stands in every world of the law. -/
import Derived.Test.YtclefcjojlkcnaaDoorAR
import Derived.Test.YtclefcjojlkcnaaDoorV
namespace Go.Proofs.YtclefcjojlkcnaaDoor.V
open Go.RowKit Go.Maps
open Go.Proofs.YtclefcjojlkcnaaDoor.G (RowA Step mem dom cN Cs EP Mono memO GL gl_push RowM AtD one_cN info26 cell_at bk_frozen bk_block RT)
set_option linter.unusedVariables false
set_option linter.unusedSimpArgs false
/-- the numbers of a node that came in -/
structure NvN (m : Nn) : Prop where
  o : In64 m.op
  d : In64 m.wd
  v0 : 0 ≤ m.vl
  v : m.vl.toNat < 18446744073709551616
  s : m.nm.size ≤ maxLen
  z : ∀ k, In64 (m.zs.getD k 0)
def few20B (n : Nat) (nm : ByteArray) : Bool := decide ((n : Int) ≤ 20) && decide (wrap64 ((nm.size : Int) / 100) ≤ 20)
theorem few20_ok {m : Nn} (h : few20B m.zs.length m.nm = true) (hv : NvN m) : OKN m ∧ m.zs.length ≤ 20 := by
  unfold few20B at h
  have hs := hv.s
  unfold maxLen at hs
  have h1 := of_decide_eq_true (Bool.and_eq_true _ _ ▸ h).1
  have h2 := of_decide_eq_true (Bool.and_eq_true _ _ ▸ h).2
  rw [IntWalk.wrap64_in _ ⟨by omega, by omega⟩] at h2
  exact ⟨⟨hv.o, hv.d, hv.v0, hv.v, by omega, by omega, hv.z⟩, by omega⟩
set_option maxHeartbeats 400000 in
theorem few20 (op wd vl : Int) (nm : ByteArray) (p : Option Addr) (n c : Nat) (w : World) : Calls Tryd.prog 11 #[.agg #[.int .i64 op, .int .i64 wd, .int .u64 vl, .string nm, .slice p n c], .int .i64 20] w fun e w' => e = .returned (.bool (few20B n nm)) ∧ BK w w' := by
  have hx := b5_new w (.int .i64 op) (.int .i64 wd) (.int .u64 vl) (.string nm) (.slice p n c) 26
  have hk0 := bk_alloc (BK.refl w) (.cells #[.int .i64 op, .int .i64 wd, .int .u64 vl, .string nm, .slice p n c] 26)
  obtain ⟨x0, x1, x2, x3, x4⟩ := hx
  go_enter Tryd.func11, Tryd.ntmps11
  go_wp2_with fail
  all_goals go_ret
  · exact ⟨ret_bool (by unfold few20B; rw [decide_eq_true ‹(n : Int) ≤ 20›]; simp), hk0⟩
  · exact ⟨ret_bool (by unfold few20B; rw [decide_eq_false (show ¬ (n : Int) ≤ 20 by have h9 := ‹(20 : Int) < (n : Int)›; omega)]; simp), hk0⟩
structure Ac where
  k : Int
  n : Nn
  i : Int
def AtC (a : Ac) (w : World) (b o : Nat) : Prop := ∃ q d, (w.cell? ⟨b, o, none⟩ = some (.int .i64 a.k) ∧ w.cell? ⟨b, o + 1, none⟩ = some (.int .i64 a.n.op) ∧ w.cell? ⟨b, o + 2, none⟩ = some (.int .i64 a.n.wd) ∧ w.cell? ⟨b, o + 3, none⟩ = some (.int .u64 a.n.vl) ∧ w.cell? ⟨b, o + 4, none⟩ = some (.string a.n.nm) ∧ w.cell? ⟨b, o + 5, none⟩ = some (.slice q a.n.zs.length d) ∧ w.cell? ⟨b, o + 6, none⟩ = some (.int .i64 a.i)) ∧ Ra w q a.n.zs ∧ (q = none → d = 0) ∧ NvN a.n
def RowC (w : World) (p : Option Addr) (acs : List Ac) : Prop := 0 < acs.length → ∃ b o, p = some ⟨b, o, none⟩ ∧ b < w.heap.size ∧ ∀ k (h : k < acs.length), AtC acs[k] w b (o + k * 7)
theorem AtC.keep {a : Ac} {w w' : World} {b o : Nat} (h : AtC a w b o) (hb : BK w w') : AtC a w' b o := by
  obtain ⟨q, d, ⟨h0, h1, h2, h3, h4, h5, h6⟩, hr, hn, hv⟩ := h
  exact ⟨q, d, ⟨cell_bk h0 hb, cell_bk h1 hb, cell_bk h2 hb, cell_bk h3 hb, cell_bk h4 hb, cell_bk h5 hb, cell_bk h6 hb⟩, hr.keep hb, hn, hv⟩
/-- both tables hold the same -/
def AL (S : Nat → Prop) (B tb mb rb c : Nat) (w0 w : World) (ms : List Nn) (ids : List Int) : Prop := (PT S B w tb mb c ms ids ∧ RT S w rb ms ids) ∧ BK w0 w
theorem AL.bk {S : Nat → Prop} {B tb mb rb c : Nat} {w0 w w' : World} {ms : List Nn} {ids : List Int} (h : AL S B tb mb rb c w0 w ms ids) (hb : BK w w') : AL S B tb mb rb c w0 w' ms ids := ⟨⟨h.1.1.bk hb, h.1.2.bk hb⟩, bk_tr h.2 hb⟩
theorem PT.more {S : Nat → Prop} {B tb mb c : Nat} {w : World} {ms : List Nn} {ids : List Int} (h : PT S B w tb mb c ms ids) : PT S B w tb mb (c + 1) ms ids := by
  obtain ⟨D, a, b⟩ := h
  exact ⟨D, a.more, b⟩
theorem AL.more {S : Nat → Prop} {B tb mb rb c : Nat} {w0 w : World} {ms : List Nn} {ids : List Int} (h : AL S B tb mb rb c w0 w ms ids) : AL S B tb mb rb (c + 1) w0 w ms ids := ⟨⟨h.1.1.more, h.1.2⟩, h.2⟩
/-- where the tables lie -/
structure Sep (S : Nat → Prop) (B tb mb rb : Nat) (w0 : World) : Prop where
  s : ∀ b, S b ↔ b ≠ mb ∧ b ≠ rb
  t : tb ≠ mb
  tr : tb ≠ rb
  mr : mb ≠ rb
  bm : w0.heap.size ≤ mb
  br : w0.heap.size ≤ rb
  b0 : B = w0.heap.size
theorem AL.ok {S : Nat → Prop} {B tb mb rb c : Nat} {w0 w : World} {ms : List Nn} {ids : List Int} (h : AL S B tb mb rb c w0 w ms ids) : ids.length = ms.length ∧ ∀ m ∈ ms, m.zs.length ≤ 1000 := by
  obtain ⟨⟨⟨D, h1, h2⟩, _⟩, _⟩ := h
  exact ⟨h2.len, fun m hm => (h2.ok m hm).l⟩
theorem AL.new {S : Nat → Prop} {B tb mb rb c : Nat} {w0 w : World} {ms : List Nn} {ids : List Int} (h : AL S B tb mb rb c w0 w ms ids) (hs : Sep S B tb mb rb w0) : ∀ b, w.heap.size ≤ b → S b := fun b hb => by
  obtain ⟨⟨⟨D, h1, h2⟩, q, cap, q', cap', _, _, ⟨h3, _⟩, _⟩, _⟩ := h
  have h4 := h1.map.lt
  exact (hs.s b).2 ⟨by omega, by omega⟩
theorem AL.lt {S : Nat → Prop} {B tb mb rb c : Nat} {w0 w : World} {ms : List Nn} {ids : List Int} (h : AL S B tb mb rb c w0 w ms ids) : mb < w.heap.size ∧ rb < w.heap.size := by
  obtain ⟨⟨⟨D, h1, h2⟩, q, cap, q', cap', _, _, ⟨h3, _⟩, _⟩, _⟩ := h
  exact ⟨h1.map.lt, h3⟩
/-- the box of a node and one number: what the calls leave -/
def SB (gb b o : Nat) (n : Nn) (q : Option Addr) (d : Nat) (i : Int) (w : World) : Prop := w.cell? ⟨gb, 0, none⟩ = some (.int .i64 n.op) ∧ w.cell? ⟨gb, 1, none⟩ = some (.int .i64 n.wd) ∧ w.cell? ⟨gb, 2, none⟩ = some (.int .u64 n.vl) ∧ w.cell? ⟨gb, 3, none⟩ = some (.string n.nm) ∧ w.cell? ⟨gb, 4, none⟩ = some (.slice q n.zs.length d) ∧ w.cell? ⟨b, o, none⟩ = some (.int .i64 i)
theorem SB.step {gb b o : Nat} {n : Nn} {q : Option Addr} {d : Nat} {i : Int} {w w' : World} {F F' : Nat → Prop} (h : SB gb b o n q d i w) (s : Step w w' F F') (h1 : ¬ F gb) (h2 : ¬ F b) : SB gb b o n q d i w' := by
  obtain ⟨a0, a1, a2, a3, a4, a5⟩ := h
  have hg := s.block gb (World.block_lt_of_cell? w _ a0) h1
  have hb := s.block b (World.block_lt_of_cell? w _ a5) h2
  exact ⟨(cell_at hg).trans a0, (cell_at hg).trans a1, (cell_at hg).trans a2, (cell_at hg).trans a3, (cell_at hg).trans a4, (cell_at hb).trans a5⟩
theorem ra_step {w w' : World} {F F' : Nat → Prop} {p : Option Addr} {zs : List Int} {X : Nat} (h : Ra w p zs) (s : Step w w' F F') (hx : ∀ b o, p = some ⟨b, o, none⟩ → b < X) (hF : ∀ k, F k → X ≤ k) : Ra w' p zs := fun h0 => by
  obtain ⟨b, o, h1, h2, h3⟩ := h h0
  have hb := s.block b h2 (fun hf => by have := hF b hf; have := hx b o h1; omega)
  exact ⟨b, o, h1, Nat.lt_of_lt_of_le h2 s.size, fun k hk => (cell_at hb).trans (h3 k hk)⟩
section
variable {S : Nat → Prop} {B tb mb rb c : Nat} {w0 : World} {ms : List Nn} {ids : List Int} {n : Nn} {id : Int} {gb b o : Nat} {q : Option Addr} {d : Nat}
/-- Put of both -/
theorem law25 (hs : Sep S B tb mb rb w0) (hn : OKN n) (ht : Tb w0) (hr0 : Ra w0 q n.zs) (hc : c < maxLen) (hgb : gb ≠ mb ∧ gb ≠ rb) (hb0 : b < w0.heap.size) (w : World) (h : AL S B tb mb rb c w0 w ms ids) (hbx : SB gb b o n q d id w) :
    Calls Tryd.prog 25 #[.pointer (some ⟨tb, 0, none⟩), .agg #[.int .i64 n.op, .int .i64 n.wd, .int .u64 n.vl, .string n.nm, .slice q n.zs.length d], .int .i64 id] w fun e w' => e = .returned (.bool (!isA n ms)) ∧ ((PT S B w' tb mb (c + 1) (insI n ms) (insJ n id ms ids) ∧ RT S w' rb ms ids) ∧ BK w0 w') ∧ SB gb b o n q d id w' := by
  refine (put25 S B tb mb c ms ids n hn id w (ht.keep h.2) q d (hr0.keep h.2) h.1.1 (by rw [hs.b0]; exact bk_size h.2) hc (h.new hs) (fun e => ((hs.s mb).1 e).1 rfl)).mono ?_
  rintro e w' ⟨he, hp, st⟩
  have hb1 := hs.bm
  exact ⟨he, ⟨⟨hp, h.1.2.keep st (fun k hk e => ((hs.s k).1 hk).1 e) (fun e => hs.mr e.symm)⟩, Step.bk_new h.2 st (fun k hk => by rw [hk]; exact hs.bm)⟩, hbx.step st hgb.1 (fun e => by omega)⟩
theorem law26 (hs : Sep S B tb mb rb w0) (hn : OKN n) (hr0 : Ra w0 q n.zs) (hq : q = none → d = 0) (hl : ms.length ≤ 1000) (hok : ids.length = ms.length ∧ ∀ m ∈ ms, m.zs.length ≤ 1000) (hgb : gb ≠ mb ∧ gb ≠ rb) (hb0 : b < w0.heap.size) (w : World) (h : (PT S B w tb mb (c + 1) (insI n ms) (insJ n id ms ids) ∧ RT S w rb ms ids) ∧ BK w0 w) (hbx : SB gb b o n q d id w) :
    Calls Tryd.prog 26 #[.pointer (some ⟨rb, 0, none⟩), .agg #[.int .i64 n.op, .int .i64 n.wd, .int .u64 n.vl, .string n.nm, .slice q n.zs.length d], .int .i64 id] w fun e w' => e = .returned (.bool (!isA n ms)) ∧ AL S B tb mb rb (c + 1) w0 w' (insI n ms) (insJ n id ms ids) ∧ SB gb b o n q d id w' := by
  have hnew : ∀ b, w.heap.size ≤ b → S b := fun b hb => by
    obtain ⟨⟨⟨D, h1, h2⟩, q, cap, q', cap', _, _, ⟨h3, _⟩, _⟩, _⟩ := h
    have h4 := h1.map.lt
    exact (hs.s b).2 ⟨by omega, by omega⟩
  refine (rput26 S ms ids n id hl hok.1 hok.2 hn.l w rb h.1.2 q d (hr0.keep h.2) hq hnew).mono ?_
  rintro e w' ⟨he, hp, st⟩
  have hb1 := hs.br
  exact ⟨he, ⟨⟨h.1.1.step st hs.tr hs.mr (fun k hk e => ((hs.s k).1 hk).2 e), hp⟩, Step.bk_new h.2 st (fun k hk => by rw [hk]; exact hs.br)⟩, hbx.step st hgb.2 (fun e => by omega)⟩
theorem law27 (hs : Sep S B tb mb rb w0) (hn : OKN n) (ht : Tb w0) (hr0 : Ra w0 q n.zs) (hgb : gb ≠ mb ∧ gb ≠ rb) (hb0 : b < w0.heap.size) (w : World) (h : AL S B tb mb rb c w0 w ms ids) (hbx : SB gb b o n q d id w) :
    Calls Tryd.prog 27 #[.pointer (some ⟨tb, 0, none⟩), .agg #[.int .i64 n.op, .int .i64 n.wd, .int .u64 n.vl, .string n.nm, .slice q n.zs.length d]] w fun e w' => e = .returned (.bool (isA n ms)) ∧ ((PT S B w' tb mb c (delI n ms) (delJ n ms ids) ∧ RT S w' rb ms ids) ∧ BK w0 w') ∧ SB gb b o n q d id w' := by
  refine (del27 S B tb mb c ms ids n hn w (ht.keep h.2) q d (hr0.keep h.2) h.1.1 (by rw [hs.b0]; exact bk_size h.2) (fun e => ((hs.s mb).1 e).1 rfl)).mono ?_
  rintro e w' ⟨he, hp, st⟩
  have hb1 := hs.bm
  exact ⟨he, ⟨⟨hp, h.1.2.keep st (fun k hk e => ((hs.s k).1 hk).1 e) (fun e => hs.mr e.symm)⟩, Step.bk_new h.2 st (fun k hk => by rw [hk]; exact hs.bm)⟩, hbx.step st hgb.1 (fun e => by omega)⟩
theorem law28 (hs : Sep S B tb mb rb w0) (hn : OKN n) (hr0 : Ra w0 q n.zs) (hl : ms.length ≤ 1000) (hok : ids.length = ms.length ∧ ∀ m ∈ ms, m.zs.length ≤ 1000) (hgb : gb ≠ mb ∧ gb ≠ rb) (hb0 : b < w0.heap.size) (w : World) (h : (PT S B w tb mb c (delI n ms) (delJ n ms ids) ∧ RT S w rb ms ids) ∧ BK w0 w) (hbx : SB gb b o n q d id w) :
    Calls Tryd.prog 28 #[.pointer (some ⟨rb, 0, none⟩), .agg #[.int .i64 n.op, .int .i64 n.wd, .int .u64 n.vl, .string n.nm, .slice q n.zs.length d]] w fun e w' => e = .returned (.bool (isA n ms)) ∧ AL S B tb mb rb c w0 w' (delI n ms) (delJ n ms ids) ∧ SB gb b o n q d id w' := by
  have hnew : ∀ b, w.heap.size ≤ b → S b := fun b hb => by
    obtain ⟨⟨⟨D, h1, h2⟩, q, cap, q', cap', _, _, ⟨h3, _⟩, _⟩, _⟩ := h
    have h4 := h1.map.lt
    exact (hs.s b).2 ⟨by omega, by omega⟩
  refine (rdel28 S ms ids n hl hok.1 hok.2 hn.l w rb h.1.2 q d (hr0.keep h.2) hnew).mono ?_
  rintro e w' ⟨he, hp, st⟩
  have hb1 := hs.br
  exact ⟨he, ⟨⟨h.1.1.step st hs.tr hs.mr (fun k hk e => ((hs.s k).1 hk).2 e), hp⟩, Step.bk_new h.2 st (fun k hk => by rw [hk]; exact hs.br)⟩, hbx.step st hgb.2 (fun e => by omega)⟩
theorem law29 (hn : OKN n) (ht : Tb w0) (hr0 : Ra w0 q n.zs) (w : World) (h : AL S B tb mb rb c w0 w ms ids) :
    Calls Tryd.prog 29 #[.pointer (some ⟨tb, 0, none⟩), .agg #[.int .i64 n.op, .int .i64 n.wd, .int .u64 n.vl, .string n.nm, .slice q n.zs.length d]] w fun e w' => e = .returned (.tuple #[.int .i64 (getI n ms ids), .bool (isA n ms)]) ∧ BK w w' :=
  get29 S B tb mb c ms ids n hn w (ht.keep h.2) q d (hr0.keep h.2) h.1.1
theorem law30 (hn : OKN n) (hl : ms.length ≤ 1000) (hok : ids.length = ms.length ∧ ∀ m ∈ ms, m.zs.length ≤ 1000) (hr0 : Ra w0 q n.zs) (w : World) (h : AL S B tb mb rb c w0 w ms ids) :
    Calls Tryd.prog 30 #[.pointer (some ⟨rb, 0, none⟩), .agg #[.int .i64 n.op, .int .i64 n.wd, .int .u64 n.vl, .string n.nm, .slice q n.zs.length d]] w fun e w' => e = .returned (.tuple #[.int .i64 (getI n ms ids), .bool (isA n ms)]) ∧ BK w w' := by
  obtain ⟨p, cap, p', cap', ⟨c0, c1⟩, _, _, hM, hI⟩ := h.1.2
  exact rget30 ms ids n hl hok.1 hok.2 hn.l w rb p p' cap cap' c0 c1 hM.rowN hI.ra q d (hr0.keep h.2)
theorem RowM.mono' {D D' : Nat → Prop} {w : World} {p : Option Addr} {c : Nat} {ms : List Nn} (h : RowM D w p c ms) (hd : ∀ k, D k → D' k) : RowM D' w p c ms := G.RowM.keep h (fun k hk => ⟨rfl, hd k hk⟩)
theorem RowM.rowN' {lo : Nat} {w : World} {p : Option Addr} {c : Nat} {ms : List Nn} (h : RowM (fresh lo w) w p c ms) : RowN w p ms :=
  G.RowM.rowN (S := fun _ => True) (RowM.mono' h (fun k hk => ⟨trivial, hk.2.1⟩))
theorem law33 (hl : ms.length ≤ 1000) (w : World) (h : AL S B tb mb rb c w0 w ms ids) : Calls Tryd.prog 33 #[.pointer (some ⟨tb, 0, none⟩)] w fun e w' => ∃ q cap, e = .returned (.slice q ms.length cap) ∧ RowM (fresh w.heap.size w') w' q cap ms ∧ BK w w' := by
  obtain ⟨⟨⟨D, h1, h2⟩, _⟩, _⟩ := h
  exact nodes33 S B tb mb c D ms ids w h1 h2 hl
end
end Go.Proofs.YtclefcjojlkcnaaDoor.V
