/- Windows of valid programs are valid; a window put back without its dead instructions. -/
import Derived.Test.YtjmmaaphadeokaaZI
import Derived.Test.YtjmmaaphadeokaaRF
namespace Go.Proofs.Ytjmmaaphadeokaa
open Go.RowKit
set_option linter.unusedVariables false
set_option linter.unusedSimpArgs false
theorem dup_lt : ∀ {l : List Int}, l.Pairwise (· < ·) → dupB l = false
  | [], _ => rfl
  | x :: t, h => by
    rw [List.pairwise_cons] at h
    unfold dupB
    rw [dup_lt h.2, Bool.or_false]
    cases hb : hasB t x with
    | false => rfl
    | true => have := h.1 x (hasB_mem.1 hb); omega
theorem winOut_lt (n : Nat) (w t : List I6) (out : List Int) : (winOut n w t out).Pairwise (· < ·) := by
  unfold winOut
  exact List.pairwise_map.2 ((List.Pairwise.filter _ List.pairwise_lt_range).imp (fun h => by omega))
theorem winOut_len (w t : List I6) (out : List Int) : (winOut 8 w t out).length ≤ 8 := by
  unfold winOut
  rw [List.length_map]
  exact Nat.le_trans (List.length_filter_le _ _) (by simp)
theorem chk_win {W R : Int} {ins : List I6} {out : List Int} (h : Vd W R ins out) {f n : Nat} (hfn : f + n ≤ ins.length) : winE W R ins out f n = 0 := by
  unfold winE; rw [if_pos (chk_zero.2 h), if_pos ⟨by omega, by omega, by omega⟩]
theorem Vd.drop {W R : Int} {ins : List I6} {out : List Int} (h : Vd W R ins out) (k : Nat) : Vd W R (ins.drop k) out := h.sub (by simp) (fun i hi => List.mem_of_mem_drop hi)
theorem Vd.win {W R : Int} {ins : List I6} {out : List Int} (h : Vd W R ins out) (f n : Nat) : Vd W R ((ins.drop f).take n) (winOut 8 ((ins.drop f).take n) (ins.drop (f + n)) out) := by
  have h1 : Vd W R ((ins.drop f).take n) out := h.sub (by simp; omega) (fun i hi => List.mem_of_mem_drop (List.mem_of_mem_take hi))
  refine ⟨h1.w1, h1.w2, h1.r1, h1.r2, h1.len, h1.fe, fun r hr => ?_, dup_lt (winOut_lt _ _ _ _)⟩
  unfold winOut at hr
  obtain ⟨x, hx, rfl⟩ := List.mem_map.1 hr
  have h2 := (List.mem_filter.1 hx).2
  rw [Bool.and_eq_true] at h2
  exact used_in (h.drop (f + n)) h2.1
theorem cut3 (ins : List I6) (f n : Nat) : ins = ins.take f ++ ((ins.drop f).take n ++ ins.drop (f + n)) := by
  rw [← List.drop_drop, List.take_append_drop, List.take_append_drop]
theorem rep_self (ins : List I6) (f n : Nat) : repL ins ((ins.drop f).take n) f n = ins := (cut3 ins f n).symm
theorem Vd.put {W R : Int} {ins : List I6} {out : List Int} (h : Vd W R ins out) (f n : Nat) (hfn : f + n ≤ ins.length) (o : List Int) : Vd W R (repL ins (removeL o ((ins.drop f).take n)) f n) out := by
  have hl := removeL_len o ((ins.drop f).take n)
  refine h.sub ?_ (fun i hi => ?_)
  · unfold repL
    simp at hl ⊢
    omega
  · unfold repL at hi
    rcases List.mem_append.1 hi with h1 | h1
    · exact List.mem_of_mem_take h1
    · rcases List.mem_append.1 h1 with h2 | h2
      · exact List.mem_of_mem_drop (List.mem_of_mem_take (removeL_mem o _ i h2))
      · exact List.mem_of_mem_drop h2
theorem puts_pure {W R : Int} {ins : List I6} {out : List Int} (h : Vd W R ins out) (f n : Nat) {s x : List Int} (hs : s.length = 8) (hx : runM (valV W) ins (cutS W s) = some x) :
    ∃ y, runM (valV W) (repL ins (removeL (winOut 8 ((ins.drop f).take n) (ins.drop (f + n)) out) ((ins.drop f).take n)) f n) (cutS W s) = some y ∧ ∀ r ∈ out, gR x r = gR y r := by
  have hv := h.iv
  rw [cut3 ins f n] at hx
  obtain ⟨y, h1, h2⟩ := putsM (valV_one W) out (A := ins.take f) (W := (ins.drop f).take n) (B := ins.drop (f + n)) (fun i hi => hv i (List.mem_of_mem_take hi)) (fun i hi => hv i (List.mem_of_mem_drop (List.mem_of_mem_take hi))) (fun i hi => hv i (List.mem_of_mem_drop hi)) (by rw [cutS_len, hs]) hx
  exact ⟨y, h1, agr_out h h2⟩
end Go.Proofs.Ytjmmaaphadeokaa
