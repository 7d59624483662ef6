/- A work list beside the reference's set: what holds between the calls. -/
import Derived.Test.YtkicoaphchpngaaAD
namespace Go.Proofs.Ytkicoaphchpngaa
open Go.RowKit Go.Lib Go.Sort Go.Maps
set_option linter.unusedVariables false
set_option linter.unusedSimpArgs false
theorem FrM.refl (w : World) (bq mb : Nat) (sv : Value) : FrM w w bq mb sv sv := ⟨rfl, rfl, rfl, Nat.le_refl _, fun _ _ _ _ _ => rfl, .inl rfl⟩
structure QI (w0 w : World) (bq mb c : Nat) (sv : Value) (zs : List Int) (v : Value) (ss : List Int) : Prop where
  q : QM w w0.heap.size bq mb c sv zs
  row : w.ownsRow w0.heap.size 3 1 v ss.length (nums ss)
  nq : v.ownBlock ≠ some bq
  nm : v.ownBlock ≠ some mb
  ns : ∀ g, sv.ownBlock = some g → v.ownBlock ≠ some g
  srt : SS ss
  mem : ∀ y, y ∈ zs ↔ y ∈ ss
  bel : Below w0.heap.size w0 w
  wfs : ∀ y ∈ zs, (Lit.int .i64 y).wf = true
theorem ss_nodup {l : List Int} (h : SS l) : l.Nodup := h.imp (fun h => by omega)
theorem QI.perm {w0 w : World} {bq mb c : Nat} {sv v : Value} {zs ss : List Int} (h : QI w0 w bq mb c sv zs v ss) : zs.Perm ss :=
  (List.perm_ext_iff_of_nodup h.q.nodup (ss_nodup h.srt)).2 h.mem
theorem QI.len {w0 w : World} {bq mb c : Nat} {sv v : Value} {zs ss : List Int} (h : QI w0 w bq mb c sv zs v ss) : zs.length = ss.length := h.perm.length_eq
theorem QI.sorted {w0 w : World} {bq mb c : Nat} {sv v : Value} {zs ss : List Int} (h : QI w0 w bq mb c sv zs v ss) : sortL zs = ss := by
  have hp : (sortL zs).Perm zs := List.mergeSort_perm zs _
  have hso : (sortL zs).Pairwise fun x y => decide (x ≤ y) = true := List.pairwise_mergeSort (fun a b c h1 h2 => by simp at *; omega) (fun a b => by simp; omega) zs
  have hn : (sortL zs).Nodup := hp.nodup_iff.2 h.q.nodup
  refine ss_ext _ _ ?_ h.srt (fun y => by rw [hp.mem_iff, h.mem y])
  exact (List.pairwise_and_iff.2 ⟨hso, hn⟩).imp (fun ⟨h1, h2⟩ => by simp at h1; omega)
theorem QI.head {w0 w : World} {bq mb c : Nat} {sv v : Value} {zs ss : List Int} (h : QI w0 w bq mb c sv zs v ss) (hz : 0 < zs.length) : zs.getD 0 0 = ss.getD 0 0 := by
  have hs : 0 < ss.length := by rw [← h.len]; exact hz
  have e1 : zs.getD 0 0 ∈ ss := (h.mem _).1 (by rw [List.getD_eq_getElem?_getD, List.getElem?_eq_getElem hz]; exact List.getElem_mem hz)
  have e2 : ss.getD 0 0 ∈ zs := (h.mem _).2 (by rw [List.getD_eq_getElem?_getD, List.getElem?_eq_getElem hs]; exact List.getElem_mem hs)
  obtain ⟨j, hj, ej⟩ := List.mem_iff_getElem.1 e2
  have h1 := heap_min _ _ h.q.heap j hj
  rw [List.getD_eq_getElem?_getD (l := zs) (i := j), List.getElem?_eq_getElem hj, Option.getD_some, ej] at h1
  obtain ⟨i, hi, ei⟩ := List.mem_iff_getElem.1 e1
  have h2 : ss.getD 0 0 ≤ zs.getD 0 0 := by
    rw [← ei, List.getD_eq_getElem?_getD, List.getElem?_eq_getElem hs, Option.getD_some]
    by_cases e : i = 0
    · subst e; exact Int.le_refl _
    · have := List.pairwise_iff_getElem.1 h.srt 0 i hs hi (by omega); omega
  omega
theorem QI.keep {w0 w w' : World} {bq mb c : Nat} {sv v : Value} {zs ss : List Int} (h : QI w0 w bq mb c sv zs v ss) (hb : Below w.heap.size w w') : QI w0 w' bq mb c sv zs v ss :=
  ⟨h.q.keep hb, own_keep h.row hb, h.nq, h.nm, h.ns, h.srt, h.mem, h.bel.trans (hb.mono h.bel.size), h.wfs⟩
theorem QI.rd {w0 w : World} {bq mb c : Nat} {sv v : Value} {zs ss : List Int} (h : QI w0 w bq mb c sv zs v ss) : Rd w v ss := Rd.own h.row
/-- the set behind an operation on the work list -/
theorem QI.rd' {w0 w w1 : World} {bq mb c : Nat} {sv sv' v : Value} {zs ss : List Int} (h : QI w0 w bq mb c sv zs v ss) (hf : FrM w w1 bq mb sv sv') : w1.ownsRow w0.heap.size 3 1 v ss.length (nums ss) :=
  row_frm h.row hf h.nq h.nm h.ns
theorem own_pr {w : World} {B n : Nat} {v : Value} {xs : List Value} (h : w.ownsRow B 3 1 v n xs) : Pr v := by
  intro c e
  rcases h.2 with ⟨h1, _⟩ | ⟨g, cap, cur, h1, _⟩
  · rw [e] at h1; simp only [Value.slice.injEq, true_and] at h1; first | exact h1 | exact h1.2
  · rw [e] at h1; cases h1
/-- the work list's operation, then a new set -/
theorem QI.next {w0 w w1 w2 : World} {bq mb c c' : Nat} {sv sv' v v' : Value} {zs zs' ss ss' : List Int} (h : QI w0 w bq mb c sv zs v ss) (hq : QM w1 w0.heap.size bq mb c' sv' zs') (hf : FrM w w1 bq mb sv sv')
    (hb : Below w1.heap.size w1 w2) (hr : w2.ownsRow w1.heap.size 3 1 v' ss'.length (nums ss')) (hs : SS ss') (hm : ∀ y, y ∈ zs' ↔ y ∈ ss') (hwf : ∀ y ∈ zs', (Lit.int .i64 y).wf = true) : QI w0 w2 bq mb c' sv' zs' v' ss' := by
  have hle : w0.heap.size ≤ w1.heap.size := Nat.le_trans h.bel.size hf.size
  refine ⟨hq.keep hb, own_weak hr hle, fun e => ?_, fun e => ?_, fun g e1 e2 => ?_, hs, hm, (h.bel.trans (hf.below h.q)).trans (hb.mono hle), hwf⟩
  · have := (World.ownsRow.lt hr _ e).1; have := hq.qs.lt; omega
  · have := (World.ownsRow.lt hr _ e).1
    obtain ⟨D, hD, _⟩ := hq.map
    have := hD.lt; omega
  · have := (World.ownsRow.lt hr _ e2).1
    have := (World.ownsRow.lt hq.qs.row g e1).2
    omega
theorem QI.start {w0 w : World} (hq : QM w w0.heap.size (w0.heap.size + 1) w0.heap.size 0 (.slice none 0 0) []) (hb : Below w0.heap.size w0 w) : QI w0 w (w0.heap.size + 1) w0.heap.size 0 (.slice none 0 0) [] (.slice none 0 0) [] :=
  ⟨hq, World.ownsRow_nil _ _ _ _, by simp [Value.ownBlock], by simp [Value.ownBlock], fun g _ => by simp [Value.ownBlock], List.Pairwise.nil, fun y => Iff.rfl, hb, fun y hy => by cases hy⟩
theorem mem_add {zs ss zs' : List Int} {x : Int} (hm : ∀ y, y ∈ zs ↔ y ∈ ss) (hp : zs'.Perm (zs ++ [x])) : ∀ y, y ∈ zs' ↔ y ∈ ofL (ss ++ [x]) := by
  intro y
  rw [hp.mem_iff, mem_ofL]; simp [hm y]
theorem qmem_hit {zs ss : List Int} {x : Int} (hm : ∀ y, y ∈ zs ↔ y ∈ ss) (hx : x ∈ zs) : ∀ y, y ∈ zs ↔ y ∈ ofL (ss ++ [x]) := by
  intro y
  rw [mem_ofL]; simp only [List.mem_append, List.mem_singleton, ← hm y]
  constructor
  · exact .inl
  · rintro (h | h)
    · exact h
    · subst h; exact hx
theorem mem_drop {zs ss zs' : List Int} {x : Int} (hn : zs.Nodup) (hm : ∀ y, y ∈ zs ↔ y ∈ ss) (hs : SS ss) (hp : zs.Perm (x :: zs')) : ∀ y, y ∈ zs' ↔ y ∈ dropL x (ofL ss) := by
  intro y
  have hn' := hp.nodup_iff.1 hn
  unfold dropL
  rw [List.mem_filter, mem_ofL, ← hm y, hp.mem_iff]
  simp only [List.mem_cons, bne_iff_ne]
  constructor
  · intro h; exact ⟨.inr h, fun e => (List.nodup_cons.1 hn').1 (e ▸ h)⟩
  · rintro ⟨h | h, h2⟩
    · exact absurd h h2
    · exact h
theorem wf_add {zs zs' : List Int} {x : Int} (h : ∀ y ∈ zs, (Lit.int .i64 y).wf = true) (hx : (Lit.int .i64 x).wf = true) (hp : zs'.Perm (zs ++ [x])) : ∀ y ∈ zs', (Lit.int .i64 y).wf = true := by
  intro y hy
  rw [hp.mem_iff] at hy
  rcases List.mem_append.1 hy with h1 | h1
  · exact h y h1
  · simp at h1; subst h1; exact hx
theorem wf_drop {zs zs' : List Int} {x : Int} (h : ∀ y ∈ zs, (Lit.int .i64 y).wf = true) (hp : zs.Perm (x :: zs')) : ∀ y ∈ zs', (Lit.int .i64 y).wf = true := fun y hy => h y (by rw [hp.mem_iff]; exact .tail _ hy)
theorem QI.wf0 {w0 w : World} {bq mb c : Nat} {sv v : Value} {zs ss : List Int} (h : QI w0 w bq mb c sv zs v ss) (hz : 0 < zs.length) : (Lit.int .i64 (zs.getD 0 0)).wf = true :=
  h.wfs _ (by rw [List.getD_eq_getElem?_getD, List.getElem?_eq_getElem hz]; exact List.getElem_mem hz)
theorem ss_drop (x : Int) (l : List Int) (h : SS l) : SS (dropL x l) := List.Pairwise.filter _ h
theorem add_len (ss : List Int) (x : Int) : (ofL (ss ++ [x])).length ≤ ss.length + 1 := by have := ofL_len (ss ++ [x]); simpa using this
theorem drop_len2 (ss : List Int) (x : Int) (h : SS ss) : (dropL x (ofL ss)).length ≤ ss.length := by rw [ofL_of_ss ss h]; exact List.length_filter_le _ _
end Go.Proofs.Ytkicoaphchpngaa
