/- Appends to the rows of a forest. -/
import Derived.Test.YtpnjmkmobdaefaaJ
namespace Go.Proofs.Ytpnjmkmobdaefaa
open Go.RowKit Go.Maps
set_option linter.unusedVariables false
set_option linter.unusedSimpArgs false
theorem ints_snoc (C : List Int) (x : Int) : ints (C ++ [x]) = ints C ++ [.int .i64 x] := by simp [ints]
theorem news1 (w : World) (x : Int) (T : Nat) : ∀ j u, ([Value.int .i64 x])[j]? = some u → (w.alloc (.cells #[.int .i64 x] T)).cell? ((⟨w.heap.size, 0, none⟩ : Addr).add j) = some u := by
  intro j u hj
  rw [show (⟨w.heap.size, 0, none⟩ : Addr).add j = ⟨w.heap.size, 0 + j, none⟩ from Go.WideShapes.add_plain _ _ _, Nat.zero_add, World.cell?_alloc_new, ← hj]
  simp
/-- an append of one number -/
theorem wpList_push1 {ops : Array Oper} {rest : List Oper} {o : Oper} {a : Act} {Q : Exit → Act → World → Prop} {w : World} (hgd : o.guard = none) (s x : Operand)
    (ho : o.op = .call { callee := .builtin .append, args := #[s, x], argTypes := #[50, 50] }) (base : Nat) (v : Value) (C : List Int) (hs : a.eval s = v) (hown : w.ownsRow base 3 1 v C.length (ints C))
    (ad : Addr) (c : Nat) (z : Int) (hx : a.eval x = .slice (some ad) 1 c) (hnews : ∀ j u, ([Value.int .i64 z])[j]? = some u → w.cell? (ad.add j) = some u) (hsm : C.length ≤ 100000) (hbase : base ≤ w.heap.size)
    (h : ∀ g cap w', w'.ownsRow base 3 1 (.slice (some ⟨g, 0, none⟩) (C.length + 1) cap) (C.length + 1) (ints (C ++ [z])) → w.grownBy w' v.ownBlock → (v.ownBlock = some g ∨ g = w.heap.size) → wpList Try.prog ops Q rest (a.put o.dst (.slice (some ⟨g, 0, none⟩) (C.length + 1) cap)) w') : wpList Try.prog ops Q (o :: rest) a w := by
  obtain ⟨i0, hi, hz0, hz1, hz2⟩ := info_parts info3
  refine wpList_append_lies w hgd s x 50 ho base 3 i0 _ 1 8 Try.underlying50 hi hz0 hz1 hz2 rfl (by decide) v C.length (ints C) hs hown ad 1 c [.int .i64 z] hx rfl hnews (by simp [Value.oneCell']) (by omega) (by unfold maxLen; omega) (by omega) hbase _ rfl ?_
  intro g cap w' h1 h2 h3 h4
  exact h g cap w' (by rw [ints_snoc]; exact h1) h2 h3
theorem fields_set5 (f : Nat) (lv : Value) (mu mo mb : Nat) (sv sv' : Value) : (fields f lv mu mo mb sv).setIfInBounds 5 sv' = fields f lv mu mo mb sv' := rfl
theorem fields_set1 (f : Nat) (lv lv' : Value) (mu mo mb : Nat) (sv : Value) : (fields f lv mu mo mb sv).setIfInBounds 1 lv' = fields f lv' mu mo mb sv := rfl
/-- blocks told apart by what they hold -/
theorem FB.tags {w : World} {B : Nat} {o : FO} {M : List L3} {N : Nat} (h : FB w B o M N) : o.lv.ownBlock ≠ some o.f ∧ o.sv.ownBlock ≠ some o.f ∧ ∀ g, o.lv.ownBlock = some g → o.sv.ownBlock ≠ some g := by
  refine ⟨fun e => ?_, fun e => ?_, fun g e e' => ?_⟩
  · obtain ⟨cur, hc⟩ := own_tag h.links e
    rw [h.blk] at hc; cases hc
  · obtain ⟨cur, hc⟩ := own_tag h.lost e
    rw [h.blk] at hc; cases hc
  · obtain ⟨cur, hc⟩ := own_tag h.links e
    obtain ⟨cur', hc'⟩ := own_tag h.lost e'
    rw [hc] at hc'; cases hc'
theorem FB.pushS {w w1 : World} {B : Nat} {o : FO} {M : List L3} {N : Nat} {X : Obj} {x : Int} {g cap : Nat} (h : FB w B o M N) (hx : okI x) (hg : (w.alloc X).grownBy w1 o.sv.ownBlock)
    (ho : w1.ownsRow B 3 1 (.slice (some ⟨g, 0, none⟩) (o.C.length + 1) cap) (o.C.length + 1) (ints (o.C ++ [x]))) (hat : o.sv.ownBlock = some g ∨ g = w.heap.size + 1) (hB : B ≤ w.heap.size) :
    FB (w1.setCell ⟨o.f, 5, none⟩ (.slice (some ⟨g, 0, none⟩) (o.C.length + 1) cap)) B { o with sv := .slice (some ⟨g, 0, none⟩) (o.C.length + 1) cap, C := o.C ++ [x] } M N ∧
    Step w (w1.setCell ⟨o.f, 5, none⟩ (.slice (some ⟨g, 0, none⟩) (o.C.length + 1) cap)) o.foot (FO.foot { o with sv := .slice (some ⟨g, 0, none⟩) (o.C.length + 1) cap, C := o.C ++ [x] }) := by
  obtain ⟨t1, t2, t3⟩ := h.tags
  have hfl : o.f < w.heap.size := h.lt _ (.inl rfl)
  have hw : ∀ k, k < w.heap.size → o.sv.ownBlock ≠ some k → w1.heap[k]? = w.heap[k]? := fun k hk hn => by
    rw [hg.block k (by rw [sz1]; omega) (fun e => hn e.symm)]; exact heap_alloc_old w X hk
  have hw' : ∀ k, k < w.heap.size → o.sv.ownBlock ≠ some k → k ≠ o.f → (w1.setCell ⟨o.f, 5, none⟩ (.slice (some ⟨g, 0, none⟩) (o.C.length + 1) cap)).heap[k]? = w.heap[k]? := fun k hk hn hne => by
    rw [heap_setCell_other w1 ⟨o.f, 5, none⟩ k _ (fun e => hne e)]; exact hw k hk hn
  have hf1 := (hw o.f hfl t2).trans h.blk
  have hgf : g ≠ o.f := fun e => by
    rcases hat with q | q
    · exact t2 (q.trans (by rw [e]))
    · omega
  obtain ⟨a1, a2, a3⟩ := h.apart (.inl rfl)
  obtain ⟨b1, b2, b3⟩ := h.apart (.inr (.inl rfl))
  obtain ⟨c1, c2, c3⟩ := h.apart (.inr (.inr rfl))
  refine ⟨⟨?_, own_at h.links fun k e => hw' k (h.links.lt k e).2 (t3 k e) (fun q => t1 (q ▸ e)), ?_, h.mup.at (hw' _ h.mup.lt a3 a1.symm), h.mov.at (hw' _ h.mov.lt b3 b1.symm), h.mbl.at (hw' _ h.mbl.lt c3 c1.symm), h.n1, h.n2, h.n3, h.l0, h.l1, h.l2, h.l3, h.ok, ?_⟩, ⟨hg.os, hg.tape, hg.output, ?_, fun k hk hn => ?_, fun k hk => ?_⟩⟩
  · show (w1.setCell ⟨o.f, 5, none⟩ _).heap[o.f]? = _
    rw [heap_setCell_same w1 o.f 5 _ 52 _ hf1, fields_set5]
  · have : (o.C ++ [x]).length = o.C.length + 1 := by simp
    show World.ownsRow _ B 3 1 _ (o.C ++ [x]).length _
    rw [this]
    exact own_at ho fun k hk => heap_setCell_other w1 ⟨o.f, 5, none⟩ k _ (fun e => hgf (by
      have : g = k := by simpa [Value.ownBlock] using hk
      rw [this]; exact e))
  · intro z hz
    rcases List.mem_append.1 hz with q | q
    · exact h.okc z q
    · have : z = x := by simpa using q
      rw [this]; exact hx
  · have := hg.size; rw [sz1] at this; simp [World.setCell]; omega
  · exact hw' k hk (fun e => hn (.inr (.inr (.inr (.inr (.inr e)))))) (fun e => hn (.inl e))
  · rcases hk with e | e | e | e | e | e
    · exact .inl (.inl e)
    · exact .inl (.inr (.inl e))
    · exact .inl (.inr (.inr (.inl e)))
    · exact .inl (.inr (.inr (.inr (.inl e))))
    · exact .inl (.inr (.inr (.inr (.inr (.inl e)))))
    · have e : g = k := by simpa [Value.ownBlock] using e
      subst e
      rcases hat with q | q
      · exact .inl (.inr (.inr (.inr (.inr (.inr q)))))
      · right; omega
theorem FB.pushL {w w1 : World} {B : Nat} {o : FO} {M : List L3} {N : Nat} {X : Obj} {x : L3} {g cap : Nat} (h : FB w B o M N) (hx : okI x.a ∧ okI x.b ∧ okI x.y) (hg : (w.alloc X).grownBy w1 o.lv.ownBlock)
    (ho : w1.ownsRow B 44 3 (.slice (some ⟨g, 0, none⟩) (M.length + 1) cap) (M.length + 1) (flat3 (M ++ [x]))) (hat : o.lv.ownBlock = some g ∨ g = w.heap.size + 1) (hB : B ≤ w.heap.size) :
    FB (w1.setCell ⟨o.f, 1, none⟩ (.slice (some ⟨g, 0, none⟩) (M.length + 1) cap)) B { o with lv := .slice (some ⟨g, 0, none⟩) (M.length + 1) cap } (M ++ [x]) N ∧
    Step w (w1.setCell ⟨o.f, 1, none⟩ (.slice (some ⟨g, 0, none⟩) (M.length + 1) cap)) o.foot (FO.foot { o with lv := .slice (some ⟨g, 0, none⟩) (M.length + 1) cap }) := by
  obtain ⟨t1, t2, t3⟩ := h.tags
  have hfl : o.f < w.heap.size := h.lt _ (.inl rfl)
  have hw : ∀ k, k < w.heap.size → o.lv.ownBlock ≠ some k → w1.heap[k]? = w.heap[k]? := fun k hk hn => by
    rw [hg.block k (by rw [sz1]; omega) (fun e => hn e.symm)]; exact heap_alloc_old w X hk
  have hw' : ∀ k, k < w.heap.size → o.lv.ownBlock ≠ some k → k ≠ o.f → (w1.setCell ⟨o.f, 1, none⟩ (.slice (some ⟨g, 0, none⟩) (M.length + 1) cap)).heap[k]? = w.heap[k]? := fun k hk hn hne => by
    rw [heap_setCell_other w1 ⟨o.f, 1, none⟩ k _ (fun e => hne e)]; exact hw k hk hn
  have hf1 := (hw o.f hfl t1).trans h.blk
  have hgf : g ≠ o.f := fun e => by
    rcases hat with q | q
    · exact t1 (q.trans (by rw [e]))
    · omega
  obtain ⟨a1, a2, a3⟩ := h.apart (.inl rfl)
  obtain ⟨b1, b2, b3⟩ := h.apart (.inr (.inl rfl))
  obtain ⟨c1, c2, c3⟩ := h.apart (.inr (.inr rfl))
  refine ⟨⟨?_, ?_, own_at h.lost fun k e => hw' k (h.lost.lt k e).2 (fun q => t3 k q e) (fun q => t2 (q ▸ e)), h.mup.at (hw' _ h.mup.lt a2 a1.symm), h.mov.at (hw' _ h.mov.lt b2 b1.symm), h.mbl.at (hw' _ h.mbl.lt c2 c1.symm), h.n1, h.n2, h.n3, h.l0, h.l1, h.l2, h.l3, ?_, h.okc⟩, ⟨hg.os, hg.tape, hg.output, ?_, fun k hk hn => ?_, fun k hk => ?_⟩⟩
  · show (w1.setCell ⟨o.f, 1, none⟩ _).heap[o.f]? = _
    rw [heap_setCell_same w1 o.f 1 _ 52 _ hf1, fields_set1]
  · have : (M ++ [x]).length = M.length + 1 := by simp
    show World.ownsRow _ B 44 3 _ (M ++ [x]).length _
    rw [this]
    exact own_at ho fun k hk => heap_setCell_other w1 ⟨o.f, 1, none⟩ k _ (fun e => hgf (by
      have : g = k := by simpa [Value.ownBlock] using hk
      rw [this]; exact e))
  · intro l hl
    rcases List.mem_append.1 hl with q | q
    · exact h.ok l q
    · have : l = x := by simpa using q
      rw [this]; exact hx
  · have := hg.size; rw [sz1] at this; simp [World.setCell]; omega
  · exact hw' k hk (fun e => hn (.inr (.inr (.inr (.inr (.inl e)))))) (fun e => hn (.inl e))
  · rcases hk with e | e | e | e | e | e
    · exact .inl (.inl e)
    · exact .inl (.inr (.inl e))
    · exact .inl (.inr (.inr (.inl e)))
    · exact .inl (.inr (.inr (.inr (.inl e))))
    · have e : g = k := by simpa [Value.ownBlock] using e
      subst e
      rcases hat with q | q
      · exact .inl (.inr (.inr (.inr (.inr (.inl q)))))
      · right; omega
    · exact .inl (.inr (.inr (.inr (.inr (.inr e)))))
theorem Step.drew {w w' : World} {F F' : Nat → Prop} (h : Step w.drew w' F F') : Step w w' F F' := ⟨h.os, h.tape, h.output, h.size, h.block, h.sub⟩
theorem Step.drewN {w w' : World} {n : Nat} {F F' : Nat → Prop} (h : Step (w.drewN n) w' F F') : Step w w' F F' := ⟨h.os, h.tape, h.output, h.size, h.block, h.sub⟩
end Go.Proofs.Ytpnjmkmobdaefaa
