/- The object in memory: one block of fields, five rows. -/
import Derived.Test.YtihoegihmgeenaaRows
import Derived.Test.YtihoegihmgeenaaP
import Derived.WalkKit
import Derived.WalkSpells
import Derived.WalkLawsBesides
import Derived.Lib.Hide
import Derived.BigQuiet
import Derived.Deep.QuietTactic
import Derived.RegionTactic
import Derived.BigRegion
import Derived.ChangeAlike
import Derived.Deep.AppendLies
import Derived.LaidEqlPtr
import Derived.OneCell
import Derived.Laws.OwnMore
namespace Go.Proofs.Ytihoegihmgeenaa
open Go.RowKit
set_option linter.unusedVariables false
def nums (l : List Nat) : List Value := l.map (fun n : Nat => Value.int .i64 (n : Int))
def opv (l : List (Int × Int)) : List Value := l.flatMap (fun p => [Value.int .i64 p.1, Value.int .i64 p.2])
theorem len_nums (l : List Nat) : (nums l).length = l.length := by simp [nums]
theorem nums_at (l : List Nat) (i : Nat) (hi : i < l.length) : (nums l)[i]? = some (.int .i64 (l.getD i 0 : Nat)) := by
  simp [nums, List.getD_eq_getElem?_getD, hi]
theorem nums_snoc (l : List Nat) (x : Nat) : nums (l ++ [x]) = nums l ++ [.int .i64 x] := by simp [nums]
theorem nums_set (l : List Nat) (i x : Nat) : nums (l.set i x) = (nums l).set i (.int .i64 x) := by simp [nums, List.map_set]
theorem nums_take (l : List Nat) (i : Nat) : nums (l.take i) = (nums l).take i := by simp [nums, List.map_take]
theorem opv_snoc (l : List (Int × Int)) (x y : Int) : opv (l ++ [(x, y)]) = opv l ++ [.int .i64 x, .int .i64 y] := by simp [opv]
theorem len_opv (l : List (Int × Int)) : (opv l).length = l.length * 2 := by
  induction l with
  | nil => rfl
  | cons a l ih => simp only [opv, List.flatMap_cons, List.length_append, List.length_cons, List.length_nil] at ih ⊢; omega
structure Row where
  v : Value
  e : TypeId
  sz : Nat
  n : Nat
  xs : List Value
/-- the object at block b: its fields, and the rows that they own, all apart -/
structure SxL (w : World) (B b : Nat) (rows : List Row) : Prop where
  blk : w.heap[b]? = some (.cells (.pointer (some ⟨b, 0, none⟩) :: rows.map Row.v).toArray 47 (0, 0))
  low : B ≤ b
  own : ∀ r ∈ rows, w.ownsRow B r.e r.sz r.v r.n r.xs
  sep : rows.Pairwise (fun x y => ∀ g, x.v.ownBlock = some g → y.v.ownBlock ≠ some g)
  off : ∀ r ∈ rows, r.v.ownBlock ≠ some b
def foot (b : Nat) (rows : List Row) (k : Nat) : Prop := k = b ∨ ∃ r ∈ rows, r.v.ownBlock = some k
/-- what a call leaves: outside the footprint all is as it was, and the new footprint is old or new memory -/
structure Step (w w' : World) (F F' : Nat → Prop) : Prop where
  os : w'.os = w.os
  tape : w'.tape = w.tape
  output : w'.output = w.output
  size : w.heap.size ≤ w'.heap.size
  block : ∀ k, k < w.heap.size → ¬ F k → w'.heap[k]? = w.heap[k]?
  sub : ∀ k, F' k → F k ∨ w.heap.size ≤ k
theorem Step.trans {a b c : World} {F G H : Nat → Prop} (h : Step a b F G) (k : Step b c G H) : Step a c F H :=
  ⟨k.os.trans h.os, k.tape.trans h.tape, k.output.trans h.output, Nat.le_trans h.size k.size,
   fun i hi hn => (k.block i (Nat.lt_of_lt_of_le hi h.size) (fun g => by rcases h.sub i g with q | q; exact hn q; omega)).trans (h.block i hi hn),
   fun i hi => by
    rcases k.sub i hi with q | q
    · exact h.sub i q
    · exact .inr (Nat.le_trans h.size q)⟩
theorem Step.refl (w : World) (F : Nat → Prop) : Step w w F F := ⟨rfl, rfl, rfl, Nat.le_refl _, fun _ _ _ => rfl, fun _ h => .inl h⟩
theorem Step.below {w w' : World} {F F' : Nat → Prop} {B : Nat} (h : Step w w' F F') (hB : ∀ k, F k → B ≤ k) (hs : B ≤ w.heap.size) : Below B w w' :=
  ⟨h.os, h.tape, h.output, h.size, fun k hk => h.block k (by omega) (fun g => by have := hB k g; omega)⟩
theorem Step.of_below {w w' : World} {F : Nat → Prop} (h : Below w.heap.size w w') : Step w w' F F :=
  ⟨h.os, h.tape, h.output, h.size, fun k hk _ => h.block k hk, fun _ h => .inl h⟩
theorem SxL.low' {w : World} {B b : Nat} {rows : List Row} (S : SxL w B b rows) : ∀ k, foot b rows k → B ≤ k := by
  rintro k (rfl | ⟨r, hr, e⟩)
  · exact S.low
  · exact ((S.own r hr).lt k e).1
theorem SxL.lt' {w : World} {B b : Nat} {rows : List Row} (S : SxL w B b rows) : ∀ k, foot b rows k → k < w.heap.size := by
  rintro k (rfl | ⟨r, hr, e⟩)
  · exact (Array.getElem?_eq_some_iff.1 S.blk).1
  · exact ((S.own r hr).lt k e).2
theorem SxL.cell {w : World} {B b : Nat} {rows : List Row} (S : SxL w B b rows) (i : Nat) (r : Row) (hr : rows[i]? = some r) : w.cell? ⟨b, i + 1, none⟩ = some r.v := by
  rw [cell_of_row w b (i + 1) _ 47 (0, 0) S.blk]
  simp [hr]
theorem SxL.self {w : World} {B b : Nat} {rows : List Row} (S : SxL w B b rows) : w.cell? ⟨b, 0, none⟩ = some (.pointer (some ⟨b, 0, none⟩)) := by
  rw [cell_of_row w b 0 _ 47 (0, 0) S.blk]
  simp
theorem SxL.free {w : World} {B b : Nat} {rows : List Row} (S : SxL w B b rows) (i : Nat) : w.frozen? ⟨b, i, none⟩ = false := frozen_of_row w b i _ 47 S.blk
/-- what does not touch the footprint keeps the object -/
theorem SxL.keep {w w' : World} {B b : Nat} {rows : List Row} (S : SxL w B b rows) (h : ∀ k, foot b rows k → w'.heap[k]? = w.heap[k]?) : SxL w' B b rows := by
  refine ⟨(h b (.inl rfl)).trans S.blk, S.low, fun r hr => ?_, S.sep, S.off⟩
  have o := S.own r hr
  refine ⟨o.1, ?_⟩
  rcases o.2 with hn | ⟨g, cap, cur, hv, hb, hg, rest⟩
  · exact .inl hn
  · exact .inr ⟨g, cap, cur, hv, hb, (h g (.inr ⟨r, hr, by rw [hv]; rfl⟩)).trans hg, rest⟩
theorem SxL.below {w w' : World} {B b : Nat} {rows : List Row} (S : SxL w B b rows) (h : Below w.heap.size w w') : SxL w' B b rows :=
  S.keep fun k hk => h.block k (S.lt' k hk)
theorem own_at {w w' : World} {B e sz n : Nat} {v : Value} {xs : List Value} (o : w.ownsRow B e sz v n xs) (h : ∀ k, v.ownBlock = some k → w'.heap[k]? = w.heap[k]?) : w'.ownsRow B e sz v n xs := by
  refine ⟨o.1, ?_⟩
  rcases o.2 with hn | ⟨g, cap, cur, hv, hb, hg, rest⟩
  · exact .inl hn
  · exact .inr ⟨g, cap, cur, hv, hb, (h g (by rw [hv]; rfl)).trans hg, rest⟩
theorem heap_set_self (w : World) (b i : Nat) (cur : Array Value) (e : TypeId) (u : Value) (h : w.heap[b]? = some (.cells cur e (0, 0))) : (w.setCell ⟨b, i, none⟩ u).heap[b]? = some (.cells (cur.setIfInBounds i u) e (0, 0)) :=
  heap_setCell_same w b i cur e u h
theorem heap_set_other (w : World) (b i k : Nat) (u : Value) (h : k ≠ b) : (w.setCell ⟨b, i, none⟩ u).heap[k]? = w.heap[k]? :=
  heap_setCell_other w ⟨b, i, none⟩ k u (fun e => h e)
/-- a field takes a row that another world owns: behind an append (with new memory), or a reslice -/
theorem SxL.put {w w1 : World} {B b : Nat} {L R : List Row} {r r' : Row} (S : SxL w B b (L ++ r :: R)) (hsz : w.heap.size ≤ w1.heap.size) (hos : w1.os = w.os) (htp : w1.tape = w.tape) (hout : w1.output = w.output)
    (hbl : ∀ k, k < w.heap.size → r.v.ownBlock ≠ some k → w1.heap[k]? = w.heap[k]?) (hown : w1.ownsRow B r'.e r'.sz r'.v r'.n r'.xs)
    (hat : ∀ g, r'.v.ownBlock = some g → r.v.ownBlock = some g ∨ w.heap.size ≤ g) (i : Nat) (hi : i = L.length + 1) :
    SxL (w1.setCell ⟨b, i, none⟩ r'.v) B b (L ++ r' :: R) ∧ Step w (w1.setCell ⟨b, i, none⟩ r'.v) (foot b (L ++ r :: R)) (foot b (L ++ r' :: R)) := by
  subst hi
  have hbs : b < w.heap.size := (Array.getElem?_eq_some_iff.1 S.blk).1
  have hbo : r.v.ownBlock ≠ some b := S.off r (by simp)
  have hb1 : w1.heap[b]? = w.heap[b]? := hbl b hbs hbo
  have hrb : ∀ g, r'.v.ownBlock = some g → g ≠ b := by
    intro g hg e; subst e
    rcases hat g hg with q | q
    · exact hbo q
    · omega
  have hoth : ∀ s ∈ L ++ R, ∀ k, s.v.ownBlock = some k → k < w.heap.size ∧ r.v.ownBlock ≠ some k ∧ k ≠ b := by
    intro s hs k hk
    have hm : s ∈ L ++ r :: R := by simp only [List.mem_append, List.mem_cons] at hs ⊢; rcases hs with q | q; exact .inl q; exact .inr (.inr q)
    refine ⟨((S.own s hm).lt k hk).2, ?_, fun e => S.off s hm (by rw [hk, e])⟩
    have h1 := S.sep
    rw [List.pairwise_append, List.pairwise_cons] at h1
    rcases List.mem_append.1 hs with q | q
    · exact h1.2.2 s q r (by simp) k hk
    · intro e; exact h1.2.1.1 s q k e hk
  constructor
  · refine ⟨?_, S.low, ?_, ?_, ?_⟩
    · rw [heap_set_self w1 b (L.length + 1) _ 47 r'.v (hb1.trans S.blk)]
      congr 2
      simp
    · intro s hs
      by_cases q : s ∈ L ++ R
      · have hm : s ∈ L ++ r :: R := by simp only [List.mem_append, List.mem_cons] at q ⊢; rcases q with q | q; exact .inl q; exact .inr (.inr q)
        refine own_at (S.own s hm) fun k hk => ?_
        obtain ⟨a1, a2, a3⟩ := hoth s q k hk
        rw [heap_set_other _ _ _ _ _ a3]; exact hbl k a1 a2
      · have : s = r' := by
          simp only [List.mem_append, List.mem_cons] at hs q
          rcases hs with g | g | g
          · exact absurd (.inl g) q
          · exact g
          · exact absurd (.inr g) q
        subst this
        exact own_at hown fun k hk => heap_set_other _ _ _ _ _ (hrb k hk)
    · have h1 := S.sep
      rw [List.pairwise_append, List.pairwise_cons] at h1 ⊢
      refine ⟨h1.1, ⟨fun s hs g hg e => ?_, h1.2.1.2⟩, fun s hs t ht => ?_⟩
      · obtain ⟨a1, a2, a3⟩ := hoth s (List.mem_append.2 (.inr hs)) g e
        rcases hat g hg with q | q
        · exact a2 q
        · omega
      · rcases List.mem_cons.1 ht with rfl | ht
        · intro g hg e
          obtain ⟨a1, a2, a3⟩ := hoth s (List.mem_append.2 (.inl hs)) g hg
          rcases hat g e with q | q
          · exact a2 q
          · omega
        · exact h1.2.2 s hs t (List.mem_cons_of_mem _ ht)
    · intro s hs e
      by_cases q : s ∈ L ++ R
      · exact (hoth s q b e).2.2 rfl
      · have : s = r' := by
          simp only [List.mem_append, List.mem_cons] at hs q
          rcases hs with g | g | g
          · exact absurd (.inl g) q
          · exact g
          · exact absurd (.inr g) q
        subst this
        exact hrb b e rfl
  · refine ⟨hos, htp, hout, by simpa [World.setCell] using hsz, fun k hk hn => ?_, ?_⟩
    · rw [heap_set_other _ _ _ _ _ (fun e => hn (.inl e))]
      exact hbl k hk (fun e => hn (.inr ⟨r, by simp, e⟩))
    · rintro k (rfl | ⟨s, hs, hk⟩)
      · exact .inl (.inl rfl)
      · by_cases q : s ∈ L ++ R
        · exact .inl (.inr ⟨s, by simp only [List.mem_append, List.mem_cons] at q ⊢; rcases q with q | q; exact .inl q; exact .inr (.inr q), hk⟩)
        · have : s = r' := by
            simp only [List.mem_append, List.mem_cons] at hs q
            rcases hs with g | g | g
            · exact absurd (.inl g) q
            · exact g
            · exact absurd (.inr g) q
          subst this
          rcases hat k hk with p | p
          · exact .inl (.inr ⟨r, by simp, p⟩)
          · exact .inr p
/-- a cell of a row is stored -/
theorem SxL.store {w : World} {B b : Nat} {L R : List Row} {e : TypeId} {sz n g cap j : Nat} {xs : List Value} {u : Value} (S : SxL w B b (L ++ ⟨.slice (some ⟨g, 0, none⟩) n cap, e, sz, n, xs⟩ :: R)) :
    SxL (w.setCell ⟨g, j, none⟩ u) B b (L ++ ⟨.slice (some ⟨g, 0, none⟩) n cap, e, sz, n, xs.set j u⟩ :: R) ∧
    Step w (w.setCell ⟨g, j, none⟩ u) (foot b (L ++ ⟨.slice (some ⟨g, 0, none⟩) n cap, e, sz, n, xs⟩ :: R)) (foot b (L ++ ⟨.slice (some ⟨g, 0, none⟩) n cap, e, sz, n, xs.set j u⟩ :: R)) := by
  have hr := S.own ⟨.slice (some ⟨g, 0, none⟩) n cap, e, sz, n, xs⟩ (by simp)
  obtain ⟨h1, h2⟩ := World.ownsRow.stored hr j u
  have hgb : g ≠ b := fun q => S.off ⟨.slice (some ⟨g, 0, none⟩) n cap, e, sz, n, xs⟩ (by simp) (by rw [← q]; rfl)
  have hf : ∀ k, foot b (L ++ ⟨.slice (some ⟨g, 0, none⟩) n cap, e, sz, n, xs.set j u⟩ :: R) k → foot b (L ++ ⟨.slice (some ⟨g, 0, none⟩) n cap, e, sz, n, xs⟩ :: R) k := by
    rintro k (rfl | ⟨s, hs, hk⟩)
    · exact .inl rfl
    · simp only [List.mem_append, List.mem_cons] at hs
      rcases hs with q | q | q
      · exact .inr ⟨s, by simp [q], hk⟩
      · subst q; exact .inr ⟨⟨.slice (some ⟨g, 0, none⟩) n cap, e, sz, n, xs⟩, List.mem_append.2 (.inr List.mem_cons_self), hk⟩
      · exact .inr ⟨s, by simp [q], hk⟩
  constructor
  · refine ⟨?_, S.low, ?_, ?_, ?_⟩
    · rw [heap_set_other _ _ _ _ _ (fun q => hgb q.symm), S.blk]
      simp
    · intro s hs
      simp only [List.mem_append, List.mem_cons] at hs
      have key : ∀ t, t ∈ L ++ R → w.ownsRow B t.e t.sz t.v t.n t.xs → (w.setCell ⟨g, j, none⟩ u).ownsRow B t.e t.sz t.v t.n t.xs := by
        intro t ht o
        refine own_at o fun k hk => heap_set_other _ _ _ _ _ (fun q => ?_)
        subst q
        have h1 := S.sep
        rw [List.pairwise_append, List.pairwise_cons] at h1
        rcases List.mem_append.1 ht with p | p
        · exact h1.2.2 t p _ List.mem_cons_self k hk rfl
        · exact h1.2.1.1 t p k rfl hk
      rcases hs with q | q | q
      · exact key s (by simp [q]) (S.own s (by simp [q]))
      · subst q; exact h1
      · exact key s (by simp [q]) (S.own s (by simp [q]))
    · have h1 := S.sep
      rw [List.pairwise_append, List.pairwise_cons] at h1 ⊢
      refine ⟨h1.1, ⟨fun s hs => h1.2.1.1 s hs, h1.2.1.2⟩, fun s hs t ht => ?_⟩
      rcases List.mem_cons.1 ht with rfl | ht
      · exact h1.2.2 s hs ⟨.slice (some ⟨g, 0, none⟩) n cap, e, sz, n, xs⟩ List.mem_cons_self
      · exact h1.2.2 s hs t (List.mem_cons_of_mem _ ht)
    · intro s hs
      simp only [List.mem_append, List.mem_cons] at hs
      rcases hs with q | q | q
      · exact S.off s (by simp [q])
      · subst q; exact S.off ⟨.slice (some ⟨g, 0, none⟩) n cap, e, sz, n, xs⟩ (by simp)
      · exact S.off s (by simp [q])
  · refine ⟨h2.os, h2.tape, h2.output, h2.size, fun k hk hn => heap_set_other _ _ _ _ _ (fun q => ?_), fun k hk => .inl (hf k hk)⟩
    subst q
    exact hn (.inr ⟨_, List.mem_append.2 (.inr List.mem_cons_self), rfl⟩)
/-- a prefix of what is owned is owned -/
theorem own_take {w : World} {B e sz g n cap m : Nat} {xs : List Value} (o : w.ownsRow B e sz (.slice (some ⟨g, 0, none⟩) n cap) n xs) (hm : m ≤ n) : w.ownsRow B e sz (.slice (some ⟨g, 0, none⟩) m cap) m (xs.take (m * sz)) := by
  have hle : m * sz ≤ n * sz := Nat.mul_le_mul_right _ hm
  refine ⟨by rw [List.length_take, o.1]; omega, .inr ?_⟩
  rcases o.2 with ⟨h, _⟩ | ⟨g', cap', cur, hv, hb, hg, hn, hc, hs, ht⟩
  · cases h
  · cases hv
    exact ⟨g, cap, cur, rfl, hb, hg, by omega, hc, hs, by rw [← ht, List.take_take, Nat.min_eq_left hle]⟩
/-- what a value looks like that owns n elements -/
theorem own_shape {w : World} {B e sz n : Nat} {v : Value} {xs : List Value} (o : w.ownsRow B e sz v n xs) : ∃ p c, v = .slice p n c := by
  rcases o.2 with ⟨h, h0⟩ | ⟨g, cap, cur, hv, _⟩
  · exact ⟨none, 0, by rw [h, h0]⟩
  · exact ⟨_, _, hv⟩
end Go.Proofs.Ytihoegihmgeenaa
