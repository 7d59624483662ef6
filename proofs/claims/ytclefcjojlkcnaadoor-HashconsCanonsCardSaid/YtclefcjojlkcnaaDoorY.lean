/- The function that the law hands to Canon; the reference's Find. A list that came in. -/
import Derived.Test.YtclefcjojlkcnaaDoorJ
import Derived.Test.YtclefcjojlkcnaaDoorW
import Derived.Test.YtclefcjojlkcnaaDoorT
namespace Go.Proofs.YtclefcjojlkcnaaDoor
open Go.ChangeShapes Go.WideShapes Go.ChangeAt Go.RowKit Go.Deep
set_option linter.unusedVariables false
set_option linter.unusedSimpArgs false
set_option maxRecDepth 4000 in
theorem open_list {H : Type} {enc : TypeId × Value → H} {w : World} {base : Nat} {v : Value} {d : DataW H} {p : List MemPlace} {r : Reach} (hv : Value.okWide Tryd.prog w r base 24 v) (h : DataW.Trod enc Tryd.prog w 0 (fun _ => true) true 24 v d p) :
    ∃ q cap zs, v = .slice q (List.length zs) cap ∧ (∀ k, In64 (List.getD zs k 0)) ∧ Ra w q zs ∧ (q = none → cap = 0) := by
  obtain ⟨a, len, cap, rfl⟩ := okWide_slice Tryd.underlying24 hv
  obtain ⟨fuel, hf⟩ := h
  exact ints_cell (c := .slice a len cap) hf
/-- the entry of a table, or the number -/
def findL (ts : List Int) (x : Int) : Int := if 0 ≤ x ∧ x < ts.length then ts.getD x.toNat 0 else x
set_option maxHeartbeats 1000000 in
theorem find21 (q : Option Addr) (c : Nat) (ts : List Int) (x : Int) (w : World) (h : Ra w q ts) : Calls Tryd.prog 21 #[.slice q ts.length c, .int .i64 x] w fun e w' => e = .returned (.int .i64 (findL ts x)) ∧ w = w' := by
  by_cases hx : 0 ≤ x ∧ x < ts.length
  · obtain ⟨k, rfl⟩ : ∃ k : Nat, x = k := ⟨x.toNat, by omega⟩
    have hk : k < ts.length := by omega
    obtain ⟨b, off, rfl, _, hc⟩ := h (by omega)
    have d := hc k hk
    have hr := Lib.hid (show findL ts k = ts.getD k 0 by unfold findL; rw [if_pos hx]; simp)
    have h1 : decide (k < ts.length) = true := by simpa using hk
    clear hc hx
    generalize ts.getD k 0 = v at d hr
    go_enter Tryd.func21, Tryd.ntmps21
    go_wp2
    go_ret
    exact ⟨ret_int hr.out.symm, rfl⟩
  · have hr := Lib.hid (show findL ts x = x by unfold findL; rw [if_neg hx])
    by_cases h0 : 0 ≤ x
    · have h1 : ¬ x < ts.length := fun h => hx ⟨h0, h⟩
      clear h hx
      go_enter Tryd.func21, Tryd.ntmps21
      go_wp2
      go_ret
      exact ⟨ret_int hr.out.symm, rfl⟩
    · clear h hx
      go_enter Tryd.func21, Tryd.ntmps21
      go_wp2
      go_ret
      exact ⟨ret_int hr.out.symm, rfl⟩
/-- what the function leaves alone: all but the cell A and the row of block ob -/
structure G20 (w w' : World) (A : Nat) (ob : Option Nat) : Prop where
  size : w.heap.size ≤ w'.heap.size
  blk : ∀ b, b < w.heap.size → b ≠ A → some b ≠ ob → w'.heap[b]? = w.heap[b]?
  bel : ∀ w0, BK w0 w → w0.heap.size ≤ A → (∀ g, ob = some g → w0.heap.size ≤ g) → BK w0 w'
theorem g20_mk {w w9 : World} {A : Nat} {ob : Option Nat} {o : Obj} (hg : (w.alloc o).grownBy w9 ob) (x : Value) : G20 w (w9.setCell ⟨A, 0, none⟩ x) A ob := by
  have hs : w.heap.size + 1 ≤ w9.heap.size := by have := hg.size; simpa using this
  refine ⟨by simp; omega, fun b hb hne ho => ?_, fun w0 h hA hob => ?_⟩
  · rw [Below.heap_setCell w9 ⟨A, 0, none⟩ x b hne, hg.block b (by simp; omega) ho]
    exact heap_alloc_old w o hb
  · have h : Below w0.heap.size w0 w := h
    exact bk_set ((h.alloc h.size o).grown hg (by have := h.size; simp; omega) hob) _ _ hA
theorem ints_snoc (L : List Int) (z : Int) : ints (L ++ [z]) = ints L ++ [.int .i64 z] := by simp [ints]
set_option maxHeartbeats 1000000 in
theorem fun20 (A tb : Nat) (va : Value) (k B : Nat) (L : List Int) (q : Option Addr) (c : Nat) (ts : List Int) (z : Int) (w : World) (hA : w.cell? ⟨A, 0, none⟩ = some va) (hf : w.frozen? ⟨A, 0, none⟩ = false)
    (hown : w.ownsRow B 3 1 va k (ints L)) (hT : w.cell? ⟨tb, 0, none⟩ = some (.slice q ts.length c)) (hR : ∀ wc, BK w wc → Ra wc q ts) (hqb : ∀ wc, G20 w wc A va.ownBlock → Ra wc q ts) (hk : k ≤ 1000) (hB : B ≤ w.heap.size) (hAB : A < B) (htB : tb < B) (hta : tb ≠ A) :
    Calls Tryd.prog 20 #[.int .i64 z, .pointer (some ⟨A, 0, none⟩), .pointer (some ⟨tb, 0, none⟩)] w fun e w' => e = .returned (.int .i64 (findL ts z)) ∧ ∃ g c', w'.cell? ⟨A, 0, none⟩ = some (.slice (some ⟨g, 0, none⟩) (k + 1) c') ∧ w'.frozen? ⟨A, 0, none⟩ = false ∧ w'.ownsRow B 3 1 (.slice (some ⟨g, 0, none⟩) (k + 1) c') (k + 1) (ints (L ++ [z])) ∧ (va.ownBlock = some g ∨ w.heap.size ≤ g) ∧ g < w'.heap.size ∧ G20 w w' A va.ownBlock := by
  obtain ⟨i3, hi3, hz3, hs3, hb3⟩ := info_parts info3'
  have hlt := World.block_lt_of_cell? w _ hA
  have htl := World.block_lt_of_cell? w _ hT
  have HO := Lib.hid hown
  have HR := Lib.hid hqb
  have HA := Lib.hid hA
  have HT := Lib.hid hT
  have HF := Lib.hid hf
  clear hR hqb hown
  have nA : some A ≠ va.ownBlock := fun e => by have := (HO.out.lt A e.symm).1; omega
  have nT : some tb ≠ va.ownBlock := fun e => by have := (HO.out.lt tb e.symm).1; omega
  have NA := Lib.hid nA
  have NT := Lib.hid nT
  clear nA nT
  go_enter Tryd.func20, Tryd.ntmps20
  go_wp2_with (at_builtin; go_must (refine wpList_append_lies _ rfl _ _ 24 rfl B 3 i3 (.int .i64 0) 1 8 Tryd.underlying24 hi3 hz3 hs3 hb3 rfl (by decide) _ k _ rfl (HO.out.alloc _) ⟨w.heap.size, 0, none⟩ 1 1 [.int .i64 z] rfl rfl (World.news_of_block (cs := #[.int .i64 z]) (t := 3) (fr := (0, 0)) (heap_alloc_new w _)) (by simp [Value.oneCell']) (by decide) (by unfold maxLen; omega) (by omega) (by simp; omega) (w.heap.size + 1) (by simp) ?_); intro g9 c9 w9 hown9 hgrow hat hlt9; have a9 := hgrow.cell (a := ⟨A, 0, none⟩) (Lib.cell?_alloc_some _ HA.out) NA.out; have f9 := (hgrow.frozen_far ⟨A, 0, none⟩ (by simp; omega) NA.out).trans ((below_alloc w _).frozen (p := ⟨A, 0, none⟩) hlt |>.trans HF.out); have t9 := hgrow.cell (a := ⟨tb, 0, none⟩) (Lib.cell?_alloc_some _ HT.out) NT.out; have H9 := Lib.hid (And.intro hown9 (And.intro hgrow (And.intro hat hlt9))); have g20 := fun x => g20_mk (A := A) hgrow x; have GG := Lib.hid g20; have h9 := hgrow.size; clear hown9 hgrow hat hlt9 g20)
  refine (find21 q c ts z _ (HR.out _ (GG.out _))).mono ?_
  rintro e w' ⟨rfl, rfl⟩
  have R9 := Lib.hid h9
  clear h9
  go_wp2_with fail
  go_ret
  obtain ⟨o9, g9', a9', l9⟩ := H9.out
  have ne : A ≠ g9 := by have := (o9.lt g9 rfl).1; omega
  refine ⟨rfl, g9, c9, ?_, ?_, ?_, ?_, ?_, GG.out _⟩
  · go_simp
  · go_simp
  · rw [ints_snoc]; exact own_at o9 (fun j hj => by cases hj; exact Below.heap_setCell w9 ⟨A, 0, none⟩ _ g9 (Ne.symm ne))
  · rcases a9' with h | h
    · exact .inl h
    · exact .inr (by omega)
  · simpa using l9
end Go.Proofs.YtclefcjojlkcnaaDoor
