/- Memory of the table's own: what writes elsewhere leave. -/
import Derived.Test.YtclefcjojlkcnaaDoorAV
import Derived.Test.YtclefcjojlkcnaaDoorAU
import Derived.Test.YtclefcjojlkcnaaDoorAT
namespace Go.Proofs.YtclefcjojlkcnaaDoor.V
open Go.RowKit Go.Maps
open Go.Proofs.YtclefcjojlkcnaaDoor.G (RowA Step mem dom cN Cs EP Mono memO GL gl_push RowM RowI AtD one_cN info26 cell_at bk_frozen bk_block RT)
set_option linter.unusedVariables false
set_option linter.unusedSimpArgs false
theorem RowI.mono' {D D' : Nat → Prop} {w : World} {p : Option Addr} {c : Nat} {zs : List Int} (h : RowI D w p c zs) (hd : ∀ k, D k → D' k) : RowI D' w p c zs := G.RowI.keep h (fun k hk => ⟨rfl, hd k hk⟩)
theorem AL.weaken {S S' : Nat → Prop} {B tb mb rb c : Nat} {w0 w : World} {ms : List Nn} {ids : List Int} (h : AL S B tb mb rb c w0 w ms ids) (hd : ∀ b, S b → b < w.heap.size → S' b) (hr : ¬ S' rb) : AL S' B tb mb rb c w0 w ms ids := by
  obtain ⟨⟨⟨D, h1, h2⟩, q, cap, q', cap', a1, a2, ⟨a3, a4⟩, a5, a6⟩, h3⟩ := h
  have hd' : ∀ k, dom S w k → dom S' w k := fun k hk => ⟨hd k hk.1 hk.2, hk.2⟩
  exact ⟨⟨⟨D, h1, ⟨h2.tidy, h2.len, h2.inc, h2.ok, h2.size, h2.has, fun p hp => by
    obtain ⟨q, d, b1, b2⟩ := h2.ent p hp
    exact ⟨q, d, b1, b2.mono hd'⟩⟩⟩, q, cap, q', cap', a1, a2, ⟨a3, hr⟩, RowM.mono' a5 hd', RowI.mono' a6 hd'⟩, h3⟩
theorem AL.step {S F F' : Nat → Prop} {B tb mb rb c : Nat} {w0 w w' : World} {ms : List Nn} {ids : List Int} (h : AL S B tb mb rb c w0 w ms ids) (s : Step w w' F F') (hS : ∀ b, S b → ¬ F b) (h1 : ¬ F tb) (h2 : ¬ F mb) (h3 : ¬ F rb) (h4 : ∀ k, F k → w0.heap.size ≤ k) : AL S B tb mb rb c w0 w' ms ids :=
  ⟨⟨h.1.1.step s h1 h2 hS, h.1.2.keep s hS h3⟩, Step.bk_new h.2 s h4⟩
/-- where the tables lie, for any footprint -/
structure Sp (S : Nat → Prop) (B tb mb rb : Nat) (w0 : World) : Prop where
  s : ∀ b, S b → b ≠ mb ∧ b ≠ rb
  t : tb ≠ mb
  tr : tb ≠ rb
  mr : mb ≠ rb
  bm : w0.heap.size ≤ mb
  br : w0.heap.size ≤ rb
  b0 : B = w0.heap.size
theorem Sep.sp {S S' : Nat → Prop} {B tb mb rb : Nat} {w0 : World} (h : Sep S B tb mb rb w0) (hs : ∀ b, S' b → S b) : Sp S' B tb mb rb w0 := ⟨fun b hb => (h.s b).1 (hs b hb), h.t, h.tr, h.mr, h.bm, h.br, h.b0⟩
section
variable {S : Nat → Prop} {B tb mb rb c : Nat} {w0 : World} {ms : List Nn} {ids : List Int} {n : Nn} {id : Int} {q : Option Addr} {d : Nat}
theorem own25 (hs : Sp S B tb mb rb w0) (hn : OKN n) (ht : Tb w0) (hc : c < maxLen) (w : World) (hr : Ra w q n.zs) (hnew : ∀ b, w.heap.size ≤ b → S b) (h : AL S B tb mb rb c w0 w ms ids) :
    Calls Tryd.prog 25 #[.pointer (some ⟨tb, 0, none⟩), .agg #[.int .i64 n.op, .int .i64 n.wd, .int .u64 n.vl, .string n.nm, .slice q n.zs.length d], .int .i64 id] w fun e w' => e = .returned (.bool (!isA n ms)) ∧ ((PT S B w' tb mb (c + 1) (insI n ms) (insJ n id ms ids) ∧ RT S w' rb ms ids) ∧ BK w0 w') ∧ Step w w' (fun k => k = mb) (fun k => k = mb) := by
  refine (put25 S B tb mb c ms ids n hn id w (ht.keep h.2) q d hr h.1.1 (by rw [hs.b0]; exact bk_size h.2) hc hnew (fun e => (hs.s mb e).1 rfl)).mono ?_
  rintro e w' ⟨he, hp, st⟩
  exact ⟨he, ⟨⟨hp, h.1.2.keep st (fun k hk e => (hs.s k hk).1 e) (fun e => hs.mr e.symm)⟩, Step.bk_new h.2 st (fun k hk => by rw [hk]; exact hs.bm)⟩, st⟩
theorem own26 (hs : Sp S B tb mb rb w0) (hn : OKN n) (hq : q = none → d = 0) (hl : ms.length ≤ 1000) (hok : ids.length = ms.length ∧ ∀ m ∈ ms, m.zs.length ≤ 1000) (w : World) (hr : Ra w q n.zs) (hnew : ∀ b, w.heap.size ≤ b → S b) (h : (PT S B w tb mb (c + 1) (insI n ms) (insJ n id ms ids) ∧ RT S w rb ms ids) ∧ BK w0 w) :
    Calls Tryd.prog 26 #[.pointer (some ⟨rb, 0, none⟩), .agg #[.int .i64 n.op, .int .i64 n.wd, .int .u64 n.vl, .string n.nm, .slice q n.zs.length d], .int .i64 id] w fun e w' => e = .returned (.bool (!isA n ms)) ∧ AL S B tb mb rb (c + 1) w0 w' (insI n ms) (insJ n id ms ids) ∧ Step w w' (fun k => k = rb) (fun k => k = rb) := by
  refine (rput26 S ms ids n id hl hok.1 hok.2 hn.l w rb h.1.2 q d hr hq hnew).mono ?_
  rintro e w' ⟨he, hp, st⟩
  exact ⟨he, ⟨⟨h.1.1.step st hs.tr hs.mr (fun k hk e => (hs.s k hk).2 e), hp⟩, Step.bk_new h.2 st (fun k hk => by rw [hk]; exact hs.br)⟩, st⟩
end
theorem step_set (w : World) (b o : Nat) (v : Value) : Step w (w.setCell ⟨b, o, none⟩ v) (fun k => k = b) (fun k => k = b) :=
  ⟨rfl, rfl, rfl, by simp [World.setCell], fun k hk hn => Below.heap_setCell _ _ _ _ hn, fun k h => .inl h⟩
/-- the own row of a copy, through its block -/
theorem own_row {w : World} {lo n : Nat} {q : Option Addr} {d : Nat} {zs : List Int} (h : w.ownsRow lo 3 1 (.slice q n d) n (ints zs)) (hn : 0 < n) : ∃ g, q = some ⟨g, 0, none⟩ ∧ lo ≤ g ∧ g < w.heap.size := by
  obtain ⟨g, cap, hv, h1, h2⟩ := h.form hn
  exact ⟨g, (Value.slice.inj hv).1, h1, h2⟩
/-- rows of nodes of any values, whose arguments are numbers of any values -/
def IntR (lo g : Nat) (w : World) (q : Option Addr) (n : Nat) : Prop := 0 < n → ∃ b o, q = some ⟨b, o, none⟩ ∧ (fresh lo w b ∧ b ≠ g) ∧ ∀ j, j < n → ∃ z, w.cell? ⟨b, o + j, none⟩ = some (.int .i64 z)
def OutN (lo g : Nat) (w : World) (N : Nat) : Prop := ∀ k, k < N → ∃ (op wd vl : Int) (nm : ByteArray) (q : Option Addr) (n d : Nat), (w.cell? ⟨g, k * 5, none⟩ = some (.int .i64 op) ∧ w.cell? ⟨g, k * 5 + 1, none⟩ = some (.int .i64 wd) ∧ w.cell? ⟨g, k * 5 + 2, none⟩ = some (.int .u64 vl) ∧ w.cell? ⟨g, k * 5 + 3, none⟩ = some (.string nm) ∧ w.cell? ⟨g, k * 5 + 4, none⟩ = some (.slice q n d)) ∧ IntR lo g w q n ∧ n ≤ 1000
theorem OutN.of {lo : Nat} {w : World} {g : Nat} {ms : List Nn} (h : RowO lo w (some ⟨g, 0, none⟩) ms) (hok : ∀ m ∈ ms, m.zs.length ≤ 1000) : OutN lo g w ms.length := fun k hk => by
  obtain ⟨g', e, h1, h2⟩ := h (by omega)
  obtain rfl : g = g' := by simpa using e
  obtain ⟨q, d, a1, a2⟩ := h2 k hk
  refine ⟨ms[k].op, ms[k].wd, ms[k].vl, ms[k].nm, q, ms[k].zs.length, d, ⟨a1 0 _ rfl, a1 1 _ rfl, a1 2 _ rfl, a1 3 _ rfl, a1 4 _ rfl⟩, fun h0 => ?_, hok _ (List.getElem_mem hk)⟩
  obtain ⟨b, o, b1, b2, b3⟩ := a2 h0
  exact ⟨b, o, b1, b2, fun j hj => ⟨_, b3 j hj⟩⟩
theorem fresh_set {lo b : Nat} {w : World} {a : Addr} {v : Value} (h : fresh lo w b) : fresh lo (w.setCell a v) b := ⟨h.1, by simpa [World.setCell] using h.2.1, fun j => by rw [World.frozen?_setCell]; exact h.2.2 j⟩
/-- a number stored over a number of the arguments -/
theorem OutN.arg {lo g N b o : Nat} {w : World} (h : OutN lo g w N) (hb : b ≠ g) {z : Int} (hc : w.cell? ⟨b, o, none⟩ = some (.int .i64 z)) (z' : Int) : OutN lo g (w.setCell ⟨b, o, none⟩ (.int .i64 z')) N := fun k hk => by
  obtain ⟨op, wd, vl, nm, q, n, d, ⟨a0, a1, a2, a3, a4⟩, a5, a6⟩ := h k hk
  have far : ∀ j, (w.setCell ⟨b, o, none⟩ (.int .i64 z')).cell? ⟨g, j, none⟩ = w.cell? ⟨g, j, none⟩ := fun j => World.cell?_setCell_other _ _ _ _ (fun e => hb (by injection e))
  refine ⟨op, wd, vl, nm, q, n, d, ⟨(far _).trans a0, (far _).trans a1, (far _).trans a2, (far _).trans a3, (far _).trans a4⟩, fun h0 => ?_, a6⟩
  obtain ⟨b', o', c1, c2, c3⟩ := a5 h0
  refine ⟨b', o', c1, ⟨fresh_set c2.1, c2.2⟩, fun j hj => ?_⟩
  by_cases e : (⟨b, o, none⟩ : Addr) = ⟨b', o' + j, none⟩
  · rw [← e]
    exact ⟨z', World.cell?_setCell_same _ _ _ hc⟩
  · obtain ⟨y, hy⟩ := c3 j hj
    exact ⟨y, by rw [World.cell?_setCell_other _ _ _ _ e]; exact hy⟩
def put5 (w : World) (g o : Nat) : World := ((((w.setCell ⟨g, o, none⟩ (.int .i64 0)).setCell ⟨g, o + 1, none⟩ (.int .i64 0)).setCell ⟨g, o + 2, none⟩ (.int .u64 0)).setCell ⟨g, o + 3, none⟩ (.string ⟨#[]⟩)).setCell ⟨g, o + 4, none⟩ (.slice none 0 0)
theorem put5_step (w : World) (g o : Nat) : Step w (put5 w g o) (fun k => k = g) (fun k => k = g) :=
  ((((step_set w g o _).trans (step_set _ g (o + 1) _)).trans (step_set _ g (o + 2) _)).trans (step_set _ g (o + 3) _)).trans (step_set _ g (o + 4) _)
theorem put5_other (w : World) (g o j : Nat) (h : j < o ∨ o + 5 ≤ j) : (put5 w g o).cell? ⟨g, j, none⟩ = w.cell? ⟨g, j, none⟩ := by
  unfold put5
  rw [World.cell?_setCell_other _ _ _ _ (fun e => by injection e; omega), World.cell?_setCell_other _ _ _ _ (fun e => by injection e; omega), World.cell?_setCell_other _ _ _ _ (fun e => by injection e; omega), World.cell?_setCell_other _ _ _ _ (fun e => by injection e; omega), World.cell?_setCell_other _ _ _ _ (fun e => by injection e; omega)]
theorem put5_fresh {lo b : Nat} {w : World} {g o : Nat} (h : fresh lo w b) : fresh lo (put5 w g o) b := fresh_set (fresh_set (fresh_set (fresh_set (fresh_set h))))
theorem put5_at (w : World) (g o : Nat) {x0 x1 x2 x3 x4 : Value} (h0 : w.cell? ⟨g, o, none⟩ = some x0) (h1 : w.cell? ⟨g, o + 1, none⟩ = some x1) (h2 : w.cell? ⟨g, o + 2, none⟩ = some x2) (h3 : w.cell? ⟨g, o + 3, none⟩ = some x3) (h4 : w.cell? ⟨g, o + 4, none⟩ = some x4) :
    (put5 w g o).cell? ⟨g, o, none⟩ = some (.int .i64 0) ∧ (put5 w g o).cell? ⟨g, o + 1, none⟩ = some (.int .i64 0) ∧ (put5 w g o).cell? ⟨g, o + 2, none⟩ = some (.int .u64 0) ∧ (put5 w g o).cell? ⟨g, o + 3, none⟩ = some (.string ⟨#[]⟩) ∧ (put5 w g o).cell? ⟨g, o + 4, none⟩ = some (.slice none 0 0) := by
  unfold put5
  refine ⟨?_, ?_, ?_, ?_, ?_⟩
  · rw [World.cell?_setCell_other _ _ _ _ (by simp), World.cell?_setCell_other _ _ _ _ (by simp), World.cell?_setCell_other _ _ _ _ (by simp), World.cell?_setCell_other _ _ _ _ (by simp)]
    exact World.cell?_setCell_same _ _ _ h0
  · rw [World.cell?_setCell_other _ _ _ _ (by simp), World.cell?_setCell_other _ _ _ _ (by simp), World.cell?_setCell_other _ _ _ _ (by simp)]
    exact World.cell?_setCell_same (u := x1) _ _ _ (by rw [World.cell?_setCell_other _ _ _ _ (by simp)]; exact h1)
  · rw [World.cell?_setCell_other _ _ _ _ (by simp), World.cell?_setCell_other _ _ _ _ (by simp)]
    exact World.cell?_setCell_same (u := x2) _ _ _ (by rw [World.cell?_setCell_other _ _ _ _ (by simp), World.cell?_setCell_other _ _ _ _ (by simp)]; exact h2)
  · rw [World.cell?_setCell_other _ _ _ _ (by simp)]
    exact World.cell?_setCell_same (u := x3) _ _ _ (by rw [World.cell?_setCell_other _ _ _ _ (by simp), World.cell?_setCell_other _ _ _ _ (by simp), World.cell?_setCell_other _ _ _ _ (by simp)]; exact h3)
  · exact World.cell?_setCell_same (u := x4) _ _ _ (by rw [World.cell?_setCell_other _ _ _ _ (by simp), World.cell?_setCell_other _ _ _ _ (by simp), World.cell?_setCell_other _ _ _ _ (by simp), World.cell?_setCell_other _ _ _ _ (by simp)]; exact h4)
/-- a zero node stored -/
theorem OutN.zero {lo g N i : Nat} {w : World} (h : OutN lo g w N) (hi : i < N) : OutN lo g (put5 w g (i * 5)) N := fun k hk => by
  by_cases e : k = i
  · subst e
    obtain ⟨op, wd, vl, nm, q, n, d, ⟨a0, a1, a2, a3, a4⟩, a5, a6⟩ := h k hk
    exact ⟨0, 0, 0, ⟨#[]⟩, none, 0, 0, put5_at w g (k * 5) a0 a1 a2 a3 a4, fun h0 => by omega, by omega⟩
  · obtain ⟨op, wd, vl, nm, q, n, d, ⟨a0, a1, a2, a3, a4⟩, a5, a6⟩ := h k hk
    refine ⟨op, wd, vl, nm, q, n, d, ⟨(put5_other w g _ _ (by omega)).trans a0, (put5_other w g _ _ (by omega)).trans a1, (put5_other w g _ _ (by omega)).trans a2, (put5_other w g _ _ (by omega)).trans a3, (put5_other w g _ _ (by omega)).trans a4⟩, fun h0 => ?_, a6⟩
    obtain ⟨b', o', c1, c2, c3⟩ := a5 h0
    exact ⟨b', o', c1, ⟨put5_fresh c2.1, c2.2⟩, fun j hj => by
      obtain ⟨y, hy⟩ := c3 j hj
      exact ⟨y, (cell_at ((put5_step w g (i * 5)).block b' c2.1.2.1 c2.2)).trans hy⟩⟩
/-- a node of the list is found -/
theorem isA_get {ms : List Nn} (hi : Inc ms) {k : Nat} (hk : k < ms.length) : isA ms[k] ms = true := (isA_mem hi).2 (List.getElem_mem hk)
theorem getI_get {ms : List Nn} (hi : Inc ms) {k : Nat} (hk : k < ms.length) (ids : List Int) : getI ms[k] ms ids = ids.getD k 0 := by
  have h1 := isA_get hi hk
  obtain ⟨hl, he⟩ := isA_el h1
  have e : atI ms[k] ms = k := by
    have hn := inc_nodup hi
    exact (List.getElem_inj hn).1 he
  unfold getI
  rw [if_pos h1, e]
end Go.Proofs.YtclefcjojlkcnaaDoor.V
