/- Appends into a field; the window of the reference. -/
import Derived.Test.YtjmmaaphadeokaaYF
import Derived.Test.YtjmmaaphadeokaaRH
namespace Go.Proofs.Ytjmmaaphadeokaa
open Go.RowKit Go.Shelf
set_option linter.unusedVariables false
set_option linter.unusedSimpArgs false
/-- an append of one instruction onto a row of one's own -/
theorem wp_app6 {o : Oper} {a : Act} {w : World} {K : Act → World → Prop} {Q : Exit → Act → World → Prop} (s x : Operand)
    (ho : o.op = .call { callee := .builtin .append, args := #[s, x], argTypes := #[22, 22] }) (base : Nat) (v : Value) (n : Nat) (xs : List I6) (hs : a.eval s = v) (hown : w.ownsRow base 54 6 v n (flat6 xs))
    (ad : Addr) (c : Nat) (i : I6) (hx : a.eval x = .slice (some ad) 1 c) (hsrc : RI w (some ad) c [i]) (hsm : n ≤ 100000) (hbase : base ≤ w.heap.size)
    (h : ∀ v' w', w'.ownsRow base 54 6 v' (n + 1) (flat6 (xs ++ [i])) → Below base w w' → K (a.put o.dst v') w') : o.wp Try.prog a w K Q := by
  obtain ⟨i0, hi, hz0, hz1, hz2⟩ := info_parts info54
  refine wp_append_own w s x 22 ho base 54 i0 _ 6 48 Try.underlying22 hi hz0 hz1 hz2 rfl (by decide) v n (flat6 xs) hs hown ad 1 c (flat6 [i]) hx (flat6_len [i]) (ri_src hsrc ad rfl) (flat6_one [i]) (by unfold maxLen; omega) (by omega) hbase ?_
  intro v' w' hown' hgrow _
  exact h v' w' (by rw [flat6_app]; exact hown') ((Below.refl base w).grown hgrow hbase (fun j hj => (World.ownsRow.lt hown j hj).1))
/-- an append of one number -/
theorem wp_app1 {o : Oper} {a : Act} {w : World} {K : Act → World → Prop} {Q : Exit → Act → World → Prop} (s x : Operand)
    (ho : o.op = .call { callee := .builtin .append, args := #[s, x], argTypes := #[23, 23] }) (base : Nat) (v : Value) (n : Nat) (xs : List Int) (hs : a.eval s = v) (hown : w.ownsRow base 3 1 v n (ints xs))
    (ad : Addr) (c : Nat) (y : Int) (hx : a.eval x = .slice (some ad) 1 c) (hsrc : ∀ j u, ([Value.int .i64 y])[j]? = some u → w.cell? (ad.add j) = some u) (hsm : n ≤ 100000) (hbase : base ≤ w.heap.size)
    (h : ∀ v' w', w'.ownsRow base 3 1 v' (n + 1) (ints (xs ++ [y])) → Below base w w' → K (a.put o.dst v') w') : o.wp Try.prog a w K Q := by
  obtain ⟨i0, hi, hz0, hz1, hz2⟩ := info_parts info3
  refine wp_append_own w s x 23 ho base 3 i0 (.int .i64 0) 1 8 Try.underlying23 hi hz0 hz1 hz2 rfl (by decide) v n (ints xs) hs hown ad 1 c [.int .i64 y] hx rfl hsrc (by simp [Value.oneCell']) (by unfold maxLen; omega) (by omega) hbase ?_
  intro v' w' hown' hgrow _
  exact h v' w' (by simpa [ints] using hown') ((Below.refl base w).grown hgrow hbase (fun j hj => (World.ownsRow.lt hown j hj).1))
theorem W4.below {w w' : World} {b B : Nat} {x0 x1 x2 x3 : Value} (h : W4 w b x0 x1 x2 x3) (hb : Below B w w') (hlt : b < B) : W4 w' b x0 x1 x2 x3 := ⟨(hb.block b hlt).trans h.h⟩
theorem A6.below {w w' : World} {b o B : Nat} {i : I6} (h : A6 w b o i) (hb : Below B w w') (hlt : b < B) : A6 w' b o i := by
  have e : ∀ j, w'.cell? ⟨b, j, none⟩ = w.cell? ⟨b, j, none⟩ := fun j => by unfold World.cell?; rw [hb.block b hlt]
  unfold A6 at *
  rw [e, e, e, e, e, e]
  exact h
theorem W4.set2 {w : World} {b : Nat} {x0 x1 x2 x3 : Value} (h : W4 w b x0 x1 x2 x3) (y : Value) : W4 (w.setCell ⟨b, 2, none⟩ y) b x0 x1 y x3 := ⟨Go.Joins.block_setCell (i := 2) h.h y⟩
theorem W4.set3 {w : World} {b : Nat} {x0 x1 x2 x3 : Value} (h : W4 w b x0 x1 x2 x3) (y : Value) : W4 (w.setCell ⟨b, 3, none⟩ y) b x0 x1 x2 y := ⟨Go.Joins.block_setCell (i := 3) h.h y⟩
theorem filt_snoc (l : List Int) (k : Nat) (h : k < l.length) (P : Int → Bool) : (l.take (k + 1)).filter P = if P l[k] = true then (l.take k).filter P ++ [l[k]] else (l.take k).filter P := by
  rw [List.take_succ_eq_append_getElem h, List.filter_append]
  cases e : P l[k] <;> simp [e]
theorem win_filt (n : Nat) (w t : List I6) (out : List Int) : (liveL n t out).filter (fun r => anyDefB w r) = winOut n w t out := by
  unfold liveL winOut
  rw [List.filter_map, List.filter_filter]
  congr 1
  refine List.filter_congr fun r _ => ?_
  simp [Bool.and_comm]
theorem anyDef_succ (l : List I6) (k : Nat) (h : k < l.length) (r : Int) : anyDefB (l.take (k + 1)) r = (anyDefB (l.take k) r || defB l[k] r) := by
  rw [List.take_succ_eq_append_getElem h, anyDef_snoc]
end Go.Proofs.Ytjmmaaphadeokaa
