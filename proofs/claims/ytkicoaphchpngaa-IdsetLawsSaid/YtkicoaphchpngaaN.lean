/- Numbers that leave a work list: lemmas. -/
import Derived.Test.YtkicoaphchpngaaM
namespace Go.Proofs.Ytkicoaphchpngaa
open Go.RowKit Go.Lib Go.Sort Go.Maps
set_option linter.unusedVariables false
theorem wpList_append_own1 {ops : Array Oper} {rest : List Oper} {o : Oper} {a : Act} {w : World} {Q : Exit → Act → World → Prop} (hgd : o.guard = none) (s x : Operand)
    (ho : o.op = .call { callee := .builtin .append, args := #[s, x], argTypes := #[22, 22] }) (base : Nat) (v : Value) (n : Nat) (xs : List Int) (hs : a.eval s = v) (hown : w.ownsRow base 3 1 v n (nums xs))
    (g : Nat) (u : Int) (hx : a.eval x = .slice (some ⟨g, 0, none⟩) 1 1) (hc : w.cell? ⟨g, 0, none⟩ = some (.int .i64 u)) (hsm : n ≤ 100000) (hbase : base ≤ w.heap.size)
    (h : ∀ v' w', w'.ownsRow base 3 1 v' (n + 1) (nums (xs ++ [u])) → w.grownBy w' v.ownBlock → (v'.ownBlock = v.ownBlock ∨ ∀ k, v'.ownBlock = some k → w.heap.size ≤ k) → wpList Try.prog ops Q rest (a.put o.dst v') w') : wpList Try.prog ops Q (o :: rest) a w := by
  obtain ⟨i0, hi, hz0, hz1, hz2⟩ := info_parts info3
  refine wpList_plain hgd fun K hK => ?_
  obtain ⟨v', w', hrun, r1, r2, r3⟩ := append_one (P := Try.prog) w base 22 o.type 3 i0 (.int .i64 0) 8 Try.underlying22 hi hz0 hz1 hz2 rfl v n (nums xs) hown ⟨g, 0, none⟩ 1 (.int .i64 u)
    (fun j y hj => by
      match j, hj with
      | 0, hj => simp at hj; subst hj; simpa [Addr.add] using hc) rfl (by unfold maxLen; omega) (by omega) hbase
  unfold Oper.wp
  simp [execOp, ho, resolve, invoke, builtin, hs, hx, hrun, Result.andThen]
  exact hK _ _ (h v' w' (by unfold nums at *; simpa using r1) r2 r3)
theorem row_grown {w w' : World} {B n : Nat} {v : Value} {xs : List Value} {r : Option Nat} (h : w.ownsRow B 3 1 v n xs) (hg : w.grownBy w' r) (h3 : ∀ g, v.ownBlock = some g → r ≠ some g) : w'.ownsRow B 3 1 v n xs := by
  rcases h.2 with ⟨h1, h2⟩ | ⟨g, cap, cur, h1, h2, h3', h4⟩
  · exact ⟨h.1, .inl ⟨h1, h2⟩⟩
  · have hlt : g < w.heap.size := (Array.getElem?_eq_some_iff.1 h3').1
    have he : v.ownBlock = some g := by subst h1; rfl
    exact ⟨h.1, .inr ⟨g, cap, cur, h1, h2, (hg.block g hlt (fun e => h3 g he e.symm)).trans h3', h4⟩⟩
theorem QM.grown {w w' : World} {B bq mb c : Nat} {sv : Value} {zs : List Int} {r : Option Nat} (h : QM w B bq mb c sv zs) (hg : w.grownBy w' r) (h1 : r ≠ some bq) (h2 : r ≠ some mb) (h3 : ∀ g, sv.ownBlock = some g → r ≠ some g) : QM w' B bq mb c sv zs := by
  obtain ⟨D, hD, hW⟩ := h.map
  exact ⟨⟨(hg.block bq h.qs.lt (fun e => h1 e.symm)).trans h.qs.blk, row_grown h.qs.row hg h3, h.qs.low⟩, h.heap, h.nodup, ⟨D, World.ownsMap.kept hD hg (fun e => h2 e.symm), hW⟩, h.lowm⟩
theorem row_frm {w w' : World} {B bq mb n : Nat} {sv sv' v : Value} {xs : List Value} (h : w.ownsRow B 3 1 v n xs) (hf : FrM w w' bq mb sv sv') (h1 : v.ownBlock ≠ some bq) (h2 : v.ownBlock ≠ some mb) (h3 : ∀ g, sv.ownBlock = some g → v.ownBlock ≠ some g) : w'.ownsRow B 3 1 v n xs := by
  rcases h.2 with ⟨a1, a2⟩ | ⟨g, cap, cur, a1, a2, a3, a4⟩
  · exact ⟨h.1, .inl ⟨a1, a2⟩⟩
  · have hlt : g < w.heap.size := (Array.getElem?_eq_some_iff.1 a3).1
    have he : v.ownBlock = some g := by subst a1; rfl
    exact ⟨h.1, .inr ⟨g, cap, cur, a1, a2, (hf.block g hlt (fun e => h1 (e ▸ he)) (fun e => h2 (e ▸ he)) (fun e => h3 g e.symm he)).trans a3, a4⟩⟩
/-- pushing -/
structure In1 (w wr : World) (B bq mb : Nat) (zs : List Int) (k c : Nat) (sv : Value) (ys : List Int) : Prop where
  q : QM wr B bq mb c sv ys
  mem : ∀ y, y ∈ ys ↔ y ∈ zs.take k
  hc : c ≤ k
  hl : ys.length ≤ k
  bel : Below B w wr
theorem In1.hit {w wr : World} {B bq mb k c : Nat} {zs ys : List Int} {sv : Value} (h : In1 w wr B bq mb zs k c sv ys) (hk : k < zs.length) (hx : zs.getD k 0 ∈ ys) : In1 w wr B bq mb zs (k + 1) c sv ys :=
  ⟨h.q, fun y => by
    rw [List.take_succ_eq_append_getElem hk, List.mem_append, ← h.mem y]
    have e : zs[k] = zs.getD k 0 := by simp [hk]
    constructor
    · exact Or.inl
    · rintro (h1 | h1)
      · exact h1
      · simp at h1; rw [h1, e]; exact hx, Nat.le_succ_of_le h.hc, Nat.le_succ_of_le h.hl, h.bel⟩
theorem In1.new {w wr w' : World} {B bq mb k c : Nat} {zs ys ys' : List Int} {sv sv' : Value} (h : In1 w wr B bq mb zs k c sv ys) (hk : k < zs.length) (hq : QM w' B bq mb (c + 1) sv' ys') (hp : ys'.Perm (ys ++ [zs.getD k 0])) (hf : FrM wr w' bq mb sv sv') : In1 w w' B bq mb zs (k + 1) (c + 1) sv' ys' :=
  ⟨hq, fun y => by
    have e : zs[k] = zs.getD k 0 := by simp [hk]
    rw [List.take_succ_eq_append_getElem hk, List.mem_append, ← h.mem y, hp.mem_iff, List.mem_append, e], Nat.succ_le_succ h.hc, by rw [hp.length_eq]; simpa using h.hl, h.bel.trans (hf.below h.q)⟩
/-- popping -/
structure In2 (w wr : World) (B bq mb : Nat) (zs : List Int) (c : Nat) (sv : Value) (ys : List Int) (v : Value) (os : List Int) : Prop where
  q : QM wr B bq mb c sv ys
  row : wr.ownsRow B 3 1 v os.length (nums os)
  nq : v.ownBlock ≠ some bq
  nm : v.ownBlock ≠ some mb
  ns : ∀ g, sv.ownBlock = some g → v.ownBlock ≠ some g
  ss : SS os
  lt : ∀ a ∈ os, ∀ b ∈ ys, a < b
  mem : ∀ y, y ∈ zs ↔ y ∈ os ∨ y ∈ ys
  hl : os.length + ys.length ≤ zs.length
  bel : Below B w wr
theorem In2.of {w wr : World} {B bq mb c k : Nat} {zs ys : List Int} {sv : Value} (h : In1 w wr B bq mb zs k c sv ys) (hk : k = zs.length) : In2 w wr B bq mb zs c sv ys (.slice none 0 0) [] := by
  have h1 := h.hl
  refine ⟨h.q, World.ownsRow_nil _ _ _ _, by simp [Value.ownBlock], by simp [Value.ownBlock], fun g _ => by simp [Value.ownBlock], List.Pairwise.nil, fun a ha => (by cases ha), fun y => ?_, (by simp; omega), h.bel⟩
  rw [h.mem y, hk, List.take_length]
  simp
theorem In2.step {w wr w1 w2 : World} {B bq mb c : Nat} {zs ys ys' os : List Int} {sv sv' v v' : Value} {o : Obj} (h : In2 w wr B bq mb zs c sv ys v os) (hz : 0 < ys.length) (hq : QM w1 B bq mb c sv' ys') (hp : ys.Perm (ys.getD 0 0 :: ys')) (hf : FrM wr w1 bq mb sv sv')
    (hrow : w2.ownsRow B 3 1 v' (os.length + 1) (nums (os ++ [ys.getD 0 0]))) (hg : (w1.alloc o).grownBy w2 v.ownBlock) (hv : v'.ownBlock = v.ownBlock ∨ ∀ k, v'.ownBlock = some k → (w1.alloc o).heap.size ≤ k) : In2 w w2 B bq mb zs c sv' ys' v' (os ++ [ys.getD 0 0]) := by
  have ha := below_alloc w1 o
  have hq1 := hq.keep ha
  have hns : ∀ g, sv'.ownBlock = some g → v.ownBlock ≠ some g := fun g hg1 hg2 => by
    rcases hf.own with e | e
    · exact h.ns g (e ▸ hg1) hg2
    · have := e g hg1
      have := (World.ownsRow.lt h.row g hg2).2
      omega
  have hq2 := hq1.grown hg h.nq h.nm hns
  have hfresh : ∀ k, v'.ownBlock = some k → v.ownBlock = some k ∨ (w1.alloc o).heap.size ≤ k := fun k e => by
    rcases hv with e1 | e1
    · exact .inl (e1 ▸ e)
    · exact .inr (e1 k e)
  have hmem : ∀ y, y ∈ ys ↔ y = ys.getD 0 0 ∨ y ∈ ys' := fun y => by rw [hp.mem_iff]; simp
  have hnd : (ys.getD 0 0 :: ys').Nodup := hp.nodup_iff.1 h.q.nodup
  have hmin : ∀ y ∈ ys', ys.getD 0 0 < y := fun y hy => by
    obtain ⟨j, hj, e⟩ := List.mem_iff_getElem.1 ((hmem y).2 (.inr hy))
    have h1 := heap_min _ _ h.q.heap j hj
    have h2 : ys.getD j 0 = y := by rw [List.getD_eq_getElem?_getD, List.getElem?_eq_getElem hj]; exact e
    have h3 : ys.getD 0 0 ≠ y := fun e => (List.nodup_cons.1 hnd).1 (e ▸ hy)
    omega
  have h0 : ys.getD 0 0 ∈ ys := (hmem _).2 (.inl rfl)
  have hlen := hp.length_eq
  simp at hlen
  refine ⟨hq2, by simpa using hrow, fun e => ?_, fun e => ?_, fun g hg1 hg2 => ?_, ?_, ?_, ?_, ?_, ?_⟩
  · rcases hfresh _ e with e1 | e1
    · exact h.nq e1
    · have := hq1.qs.lt; omega
  · rcases hfresh _ e with e1 | e1
    · exact h.nm e1
    · obtain ⟨D, hD, _⟩ := hq1.map
      have := hD.lt; omega
  · rcases hfresh _ hg2 with e1 | e1
    · exact hns g hg1 e1
    · have := (World.ownsRow.lt hq1.qs.row g hg1).2; omega
  · exact List.pairwise_append.2 ⟨h.ss, by simp, fun a ha' b hb => by simp at hb; subst hb; exact h.lt a ha' _ h0⟩
  · intro a ha' b hb
    rcases List.mem_append.1 ha' with h1 | h1
    · exact h.lt a h1 b ((hmem b).2 (.inr hb))
    · simp at h1; subst h1; exact hmin b hb
  · intro y
    rw [h.mem y, hmem y, List.mem_append]; simp [or_assoc]
  · have := h.hl; simp; omega
  · have hB : B ≤ w1.heap.size := by have := hq.qs.low; have := hq.qs.lt; omega
    exact ((h.bel.trans (hf.below h.q)).alloc hB o).grown hg (Nat.le_trans hB ha.size) (fun j hj => (World.ownsRow.lt h.row j hj).1)
theorem In2.done {w wr : World} {B bq mb c : Nat} {zs os : List Int} {sv v : Value} (h : In2 w wr B bq mb zs c sv [] v os) : sameB os (ofL zs) = true := by
  unfold sameB
  exact decide_eq_true (ss_ext _ _ h.ss (ss_ofL _) (fun y => by rw [mem_ofL, h.mem y]; simp))
end Go.Proofs.Ytkicoaphchpngaa
