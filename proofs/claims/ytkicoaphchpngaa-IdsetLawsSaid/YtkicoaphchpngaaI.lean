/- idset.Of. -/
import Derived.Test.YtkicoaphchpngaaG
import Derived.Test.YtkicoaphchpngaaS
import Derived.Test.YtkicoaphchpngaaShelf
import Derived.Sort.OwnSortedInts
namespace Go.Proofs.Ytkicoaphchpngaa
open Go.RowKit Go.Lib Go.Sort
set_option linter.unusedVariables false
/-- a slice of ints that reads as zs -/
def Rd (w : World) (sv : Value) (zs : List Int) : Prop :=
  (∃ a cap, sv = .slice a 0 cap ∧ zs = []) ∨ ∃ b off cap, sv = .slice (some ⟨b, off, none⟩) zs.length cap ∧ 0 < zs.length ∧ zs.length ≤ cap ∧ b < w.heap.size ∧ ∀ k, k < zs.length → w.cell? ⟨b, off + k, none⟩ = some (.int .i64 (zs.getD k 0))
theorem Rd.below {w w' : World} {sv : Value} {zs : List Int} (h : Rd w sv zs) (hb : Below w.heap.size w w') : Rd w' sv zs := by
  rcases h with h | ⟨b, off, cap, h1, h2, h3, h4, h5⟩
  · exact Or.inl h
  · exact Or.inr ⟨b, off, cap, h1, h2, h3, Nat.lt_of_lt_of_le h4 hb.size, fun k hk => (hb.cell (p := ⟨b, off + k, none⟩) h4).trans (h5 k hk)⟩
theorem Rd.own {w : World} {B : Nat} {v : Value} {zs : List Int} (h : w.ownsRow B 3 1 v zs.length (nums zs)) : Rd w v zs := by
  rcases Joins.ownsRow_forms h with ⟨rfl, h0⟩ | ⟨g, cap, rfl⟩
  · exact Or.inl ⟨none, 0, rfl, List.eq_nil_of_length_eq_zero h0⟩
  · by_cases h0 : zs.length = 0
    · obtain rfl := List.eq_nil_of_length_eq_zero h0
      exact Or.inl ⟨_, _, rfl, rfl⟩
    · exact Or.inr ⟨g, 0, cap, rfl, by omega, row_cap h, (World.ownsRow.lt h g rfl).2, fun k hk => by
        rw [Nat.zero_add, World.ownsRow.cellAt h k (by omega)]; simp [nums, hk]⟩
def OfPost (w : World) (zs : List Int) (e : Ending) (w' : World) : Prop := ∃ v, e = .returned v ∧ w'.ownsRow w.heap.size 3 1 v zs.length (nums zs) ∧ Below w.heap.size w w'
theorem putCut {w : World} {B g cap q : Nat} {ss ts : List Int} (hr : w.ownsRow B 3 1 (.slice (some ⟨g, 0, none⟩) ss.length cap) ss.length (nums ss)) (hl : ts.length = ss.length) (os : Array Obj) :
    (grow (putRow (Value.int .i64) (Sort.ahead w q) g 0 ts.toArray) os).ownsRow B 3 1 (.slice (some ⟨g, 0, none⟩) ss.length cap) ss.length (nums ts) ∧ w.grownBy (grow (putRow (Value.int .i64) (Sort.ahead w q) g 0 ts.toArray) os) (some g) := by
  refine ⟨?_, grownBy_sortedI _⟩
  rcases hr.2 with ⟨h', _⟩ | ⟨g', cap', cur, h', hb, hg, h1, h2, h3, h4⟩
  · simp at h'
  · simp only [Value.slice.injEq, Option.some.injEq, Addr.mk.injEq, and_true, true_and] at h'
    obtain ⟨rfl, rfl⟩ := h'
    exact ownsRow_sortedI (n := q) (os := os) (ss := ss) (ts := ts) (cap := cap) hl hb hg h1 h2 (by simpa using h3)
theorem holds_own {w : World} {B g cap : Nat} {ss : List Int} (hr : w.ownsRow B 3 1 (.slice (some ⟨g, 0, none⟩) ss.length cap) ss.length (nums ss)) : Holds (Value.int .i64) w g 0 ss.toArray := by
  rcases hr.2 with ⟨h', _⟩ | ⟨g', cap', cur, h', hb, hg, h1, h2, h3, h4⟩
  · simp at h'
  · simp only [Value.slice.injEq, Option.some.injEq, Addr.mk.injEq, and_true, true_and] at h'
    obtain ⟨rfl, rfl⟩ := h'
    exact holds_of_blockI hg (by simpa [nums] using h4)
set_option maxHeartbeats 1000000 in
theorem of_empty (a : Option Addr) (c : Nat) (w : World) : Calls Try.prog 12 #[.slice a 0 c] w (OfPost w []) := by
  cases a with
  | none =>
    have hcl := Lib.hid (Try.slices_Clone_int_nil 0 c w)
    go_enter Try.func12, Try.ntmps12
    go_wp2_with fail
    refine hcl.out.mono ?_
    rintro e w1 ⟨rfl, rfl⟩
    go_wp2_with fail
    refine (Try.slices_Sort_int_none _ _ _).mono ?_
    rintro e w1 ⟨rfl, rfl⟩
    go_wp2_with fail
    refine (Try.slices_Compact_int_empty _ _ _).mono ?_
    rintro e w1 ⟨rfl, rfl⟩
    go_wp2_with fail
    go_ret
    exact ⟨_, rfl, World.ownsRow_nil _ _ _ _, Below.refl _ _⟩
  | some a =>
    have hcl := Lib.hid (Try.slices_Clone_int_zero a c w)
    go_enter Try.func12, Try.ntmps12
    go_wp2_with fail
    refine hcl.out.mono ?_
    rintro e w1 ⟨v', rfl, hown, hne, hb⟩
    rcases Joins.ownsRow_forms hown with ⟨hv, _⟩ | ⟨g, cap, hv⟩
    · exact absurd hv hne
    · rw [hv] at hown ⊢
      clear hv hne
      go_wp2_with fail
      refine (Try.slices_Sort_int_none _ _ _).mono ?_
      rintro e w2 ⟨rfl, rfl⟩
      go_wp2_with fail
      refine (Try.slices_Compact_int_empty _ _ _).mono ?_
      rintro e w2 ⟨rfl, rfl⟩
      go_wp2_with fail
      go_ret
      exact ⟨_, rfl, hown, hb⟩
set_option maxHeartbeats 1000000 in
theorem of_some (b off c : Nat) (zs : List Int) (w : World) (h0 : 0 < zs.length) (hsm : zs.length ≤ 100000) (hc : ∀ k, k < zs.length → w.cell? ⟨b, off + k, none⟩ = some (.int .i64 (zs.getD k 0))) :
    Calls Try.prog 12 #[.slice (some ⟨b, off, none⟩) zs.length c] w (OfPost w (ofL zs)) := by
  have hcl := Lib.hid (Try.slices_Clone_int b off zs.length c zs w (Nat.le_refl _) (by omega) hc)
  go_enter Try.func12, Try.ntmps12
  go_wp2_with fail
  refine hcl.out.mono ?_
  rintro e w1 ⟨v', rfl, hown, hne, hb⟩
  rw [List.take_length] at hown
  obtain ⟨g, cap, hv⟩ := Joins.ownsRow_form hown h0
  rw [hv] at hown ⊢
  have hgl := (World.ownsRow.lt hown g rfl)
  have hso := Lib.hid (Try.slices_Sort_int g 0 cap zs w1 (holds_own hown) hgl.2 (by omega))
  clear hv hne hcl
  go_wp2_with fail
  refine hso.out.mono ?_
  rintro e w2 ⟨rfl, n, os, hw2⟩
  have hlen : (zs.mergeSort fun x y => decide (x ≤ y)).length = zs.length := List.length_mergeSort _
  obtain ⟨hown2, hg2⟩ := putCut (q := n) hown hlen os
  rw [← hw2] at hown2 hg2
  have hcomp := compact_ofL zs
  generalize (zs.mergeSort fun x y => decide (x ≤ y)) = ys at hlen hown2 hcomp hw2
  clear hw2 hso
  rw [← hlen] at hown2
  have hcap : ys.length ≤ cap := row_cap hown2
  have hco := Try.slices_Compact_int g 0 cap ys w2 (holds_own hown2) (by omega) hcap
  rw [hcomp, hlen] at hco
  have hco' := Lib.hid hco
  have hlen' := Lib.hid hlen
  clear hco hlen hcomp hcap
  go_wp2_with fail
  refine hco'.out.mono ?_
  rintro e w3 ⟨rfl, q, hw3⟩
  have hl := ofL_len zs
  have hlen := hlen'.out
  have hl3 : (ofL zs ++ List.replicate (zs.length - (ofL zs).length) 0).length = ys.length := by simp; omega
  obtain ⟨hown3, hg3⟩ := putCut (q := q) hown2 hl3 #[]
  rw [grow_empty, ← hw3] at hown3 hg3
  clear hw3 hco'
  have hown4 := own_take hown3 (ofL zs).length (by omega)
  have e4 : (nums (ofL zs ++ List.replicate (zs.length - (ofL zs).length) 0)).take (ofL zs).length = nums (ofL zs) := by
    unfold nums; rw [← List.map_take, List.take_left']; rfl
  rw [e4] at hown4
  have hbel : Below w.heap.size w w3 := (hb.grown hg2 hb.size (fun j hj => by cases hj; exact hgl.1)).grown hg3 (Nat.le_trans hb.size hg2.size) (fun j hj => by cases hj; exact hgl.1)
  have H4 := Lib.hid hown4
  clear hown4 hown3 hown2 hown hlen hl3 hl e4
  go_wp2_with fail
  go_ret
  exact ⟨_, rfl, H4.out, hbel⟩
theorem of_any (sv : Value) (zs : List Int) (w : World) (h : Rd w sv zs) (hsm : zs.length ≤ 100000) : Calls Try.prog 12 #[sv] w (OfPost w (ofL zs)) := by
  rcases h with ⟨a, cap, rfl, rfl⟩ | ⟨b, off, cap, rfl, h1, _, _, h4⟩
  · exact of_empty a cap w
  · exact of_some b off cap zs w h1 hsm h4
end Go.Proofs.Ytkicoaphchpngaa
