/- A term costs more than an operand. -/
import Derived.Test.YtmejiiebeknbjaaDoorS
namespace Go.Proofs.YtmejiiebeknbjaaDoor
open Go.RowKit
set_option linter.unusedVariables false
set_option linter.unusedSimpArgs false
mutual
theorem allT_len : ∀ t : T, (allT t).length = size t
  | .mk op wd vl nm ts => by rw [allT, List.length_append, allL_len ts, size]; simp [Nat.add_comm]
theorem allL_len : ∀ ts : List T, (allT.allL ts).length = sizeL ts
  | [] => by rw [allT.allL, sizeL]; rfl
  | t :: ts => by rw [allT.allL, List.length_append, allT_len t, allL_len ts, sizeL]
end
theorem addC_id {a b : Int} (h0 : 0 ≤ a) (h1 : 0 ≤ b) (h : a + b ≤ inf) : addC a b = a + b := by
  unfold addC; rw [cl_id h0 (by omega), cl_id h1 (by omega)]; omega
theorem treeC_sum (c : List Int) (t : T) : size t ≤ 1000 → treeC c t = sumN c (allT t) := by
  induction t using T.ind with
  | h op wd vl nm ts ih =>
    have hl : ∀ (us : List T), (∀ u ∈ us, treeC c u = sumN c (allT u)) → ∀ a : Int, 0 ≤ a → a + 1048576 * sizeL us ≤ inf → treeL c a us = a + sumN c (allT.allL us) := by
      intro us
      induction us with
      | nil => intro _ a _ _; rw [treeL, allT.allL]; simp [sumN]
      | cons u us ihu =>
        intro h a h0 h1
        rw [sizeL] at h1
        have hb := sumN_bd c (allT u)
        rw [allT_len] at hb
        rw [treeL, h u (by simp), addC_id h0 (by omega) (by omega), ihu (fun x hx => h x (by simp [hx])) _ (by omega) (by omega), allT.allL, sumN_app]
        omega
    intro hs
    rw [size] at hs
    have hb := node_bd c op
    rw [treeC, hl ts (fun u hu => ih u hu (by have := size_mem hu; omega)) _ (by omega) (by unfold inf; omega), allT, sumN_app]
    simp only [sumN, T.op]
    omega
theorem sum_in (c : List Int) (ts : List T) (u : T) (h : u ∈ ts) : sumN c (allT u) ≤ sumN c (allT.allL ts) := by
  induction ts with
  | nil => cases h
  | cons t ts ih =>
    rw [allT.allL, sumN_app]
    have h1 := sumN_bd c (allT t)
    have h2 := sumN_bd c (allT.allL ts)
    rcases List.mem_cons.1 h with rfl | h
    · omega
    · have := ih h; omega
theorem tree_lt (c : List Int) (op wd : Int) (vl : Nat) (nm : ByteArray) (ts : List T) (u : T) (hu : u ∈ ts) (h : size (.mk op wd vl nm ts) ≤ 1000) : treeC c u < treeC c (.mk op wd vl nm ts) := by
  have hs := size_mem hu
  have h' : 1 + sizeL ts ≤ 1000 := h
  rw [treeC_sum c _ h, treeC_sum c u (by omega), allT, sumN_app]
  have := sum_in c ts u hu
  have := node_bd c op
  simp only [sumN, T.op]
  omega
theorem row1m {w : World} {n : Nat} {op1 wd1 : Int} {vl1 : Nat} {nm1 : ByteArray} {ts1 : List T} {p1 : Option Addr} {c1 : Nat} (hn : w.heap.size = n) (h1 : Row w p1 c1 ts1) (f1 : Wf op1 wd1 vl1 nm1) :
    Row (w.alloc (.cells #[.int .i64 op1, .int .i64 wd1, .int .u64 vl1, .string nm1, .slice p1 ts1.length c1] 34)) (some ⟨n, 0, none⟩) 1 [T.mk op1 wd1 vl1 nm1 ts1] := hn ▸ row1 h1 f1
end Go.Proofs.YtmejiiebeknbjaaDoor
