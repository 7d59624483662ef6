/- Ops, and the law on it. -/
import Derived.Test.YtngmhgcnohgaiaaDoorE
namespace Go.Proofs.YtngmhgcnohgaiaaDoor
open Go.RowKit
set_option linter.unusedVariables false
def isOpB (op : Int) : Bool := decide (0 < op ∧ op < 27)
set_option maxHeartbeats 400000 in
theorem isOp_any (op : Int) (w : World) : Calls Tryd.prog 11 #[.int .i64 op] w fun e w' => e = .returned (.bool (isOpB op)) ∧ w = w' := by
  go_enter Tryd.func11, Tryd.ntmps11
  go_wp2
  all_goals go_ret
  · exact ⟨ret_bool (by unfold isOpB; rw [Bool.eq_iff_iff]; simp; omega), rfl⟩
  · exact ⟨ret_bool (by unfold isOpB; symm; apply decide_eq_false; omega), rfl⟩
def upto (k : Nat) : List Int := (List.range k).map fun i : Nat => ((i : Int) + 1)
theorem upto_succ (k : Nat) : upto (k + 1) = upto k ++ [(k : Int) + 1] := by
  unfold upto; rw [List.range_succ, List.map_append]; rfl
theorem upto_len (k : Nat) : (upto k).length = k := by unfold upto; simp
theorem info22 : (Tryd.prog.info? 22).map (fun i => (i.zero, i.size, i.bytes)) = some (some (.int .i64 0), 1, 8) := by kernel_rfl
set_option maxHeartbeats 1000000 in
theorem ops_any (w : World) : Calls Tryd.prog 10 #[] w fun e w' => ∃ v, e = .returned v ∧ w'.ownsRow w.heap.size 22 1 v 26 ((upto 26).map (Value.int .i64)) ∧ Below w.heap.size w w' := by
  obtain ⟨i0, hi, hz0, hz1, hz2⟩ := info_parts info22
  go_enter Tryd.func10, Tryd.ntmps10
  go_wp2_with fail
  go_loopw [1, 2] (fun v i wr => ∃ k : Nat, k ≤ 26 ∧ i = .int .i64 ((k : Int) + 1) ∧ wr.ownsRow w.heap.size 22 1 v k ((upto k).map (Value.int .i64)) ∧ Below w.heap.size w wr) (fun v i _ => 27 - (intOf i).toNat)
  case atStart => exact ⟨0, by omega, rfl, World.ownsRow_nil _ _ _ _, Below.refl _ _⟩
  case round =>
    obtain ⟨k, hk, rfl, hown, hb⟩ := hrel
    by_cases hlt : k < 26
    · have hop : isOpB ((k : Int) + 1) = true := by unfold isOpB; apply decide_eq_true; omega
      go_wp2_with (first | (go_at_call 11; refine (isOp_any _ _).mono ?_; rintro e w' ⟨rfl, rfl⟩) | (at_builtin; refine wpList_append_own _ rfl _ _ 29 rfl w.heap.size 22 i0 (.int .i64 0) 1 8 Tryd.underlying29 hi hz0 hz1 hz2 rfl (by decide) _ _ _ rfl (hown.alloc _) ⟨wr.heap.size, 0, none⟩ 1 1 [.int .i64 ((k : Int) + 1)] rfl rfl ?c1 ?c2 ?c3 ?c4 ?c5 ?_))
      case c1 =>
        intro j u hj
        match j, hj with
        | 0, hj => simp at hj; subst hj; simp [Addr.add]
      case c2 => intro u hu; simp at hu; subst hu; rfl
      case c3 => unfold maxLen; omega
      case c4 => omega
      case c5 => have := hb.size; simp; omega
      · intro v' w1 hown' hgrow _
        have hb1 : Below w.heap.size w w1 := (hb.alloc hb.size _).grown hgrow (by have := hb.size; simp; omega) (fun r hr => (World.ownsRow.lt hown r hr).1)
        have ho1 : w1.ownsRow w.heap.size 22 1 v' (k + 1) ((upto (k + 1)).map (Value.int .i64)) := by rw [upto_succ, List.map_append]; exact hown'
        clear hown' hgrow hown hb
        go_wp2
        go_roundw
        case rel => exact ⟨k + 1, by omega, by simp, ho1, hb1⟩
        case measure => simp [intOf]; omega
    · have hop : isOpB ((k : Int) + 1) = false := by unfold isOpB; apply decide_eq_false; omega
      obtain rfl : k = 26 := by omega
      go_wp2_with (go_at_call 11; refine (isOp_any _ _).mono ?_; rintro e w' ⟨rfl, rfl⟩)
      go_ret
      exact ⟨_, rfl, hown, hb⟩
theorem row_open {w : World} {base : Nat} {v : Value} {n : Nat} {zs : List Int} (h : w.ownsRow base 22 1 v n (zs.map (Value.int .i64))) (hn : 0 < n) :
    ∃ g cap, v = .slice (some ⟨g, 0, none⟩) n cap ∧ zs.length = n ∧ ∀ k, k < n → w.cell? ⟨g, k, none⟩ = some (.int .i64 (zs.getD k 0)) := by
  obtain ⟨h1, ⟨_, h2⟩ | ⟨g, cap, cur, rfl, _⟩⟩ := id h
  · omega
  · refine ⟨g, cap, rfl, by simpa using h1, fun k hk => ?_⟩
    have hl : zs.length = n := by simpa using h1
    have := World.ownsRow.cells h (g := g) rfl k (.int .i64 (zs.getD k 0)) (by simp [List.getD_eq_getElem?_getD]; rw [List.getElem?_eq_getElem (by omega)]; simp)
    have hadd : (⟨g, 0, none⟩ : Addr).add k = ⟨g, k, none⟩ := by unfold Addr.add; split <;> simp_all
    rwa [hadd] at this
end Go.Proofs.YtngmhgcnohgaiaaDoor
