/- Specifications without memory: equality, weight, validity, depth, number; bounds. -/
import Derived.Test.YtgiheheakgigkaaX
namespace Go.Proofs.Ytgiheheakgigkaa
open Go.RowKit
set_option linter.unusedVariables false
set_option linter.unusedSimpArgs false
mutual
/-- sizes that fit -/
def okT : T → Prop
  | .mk a ts => a.size ≤ maxLen ∧ ts.length ≤ maxLen ∧ okL ts
def okL : List T → Prop
  | [] => True
  | t :: ts => okT t ∧ okL ts
end
theorem okT_mk {a : ByteArray} {ts : List T} : okT (.mk a ts) ↔ a.size ≤ maxLen ∧ ts.length ≤ maxLen ∧ okL ts := by rw [okT]
theorem okL_iff : ∀ {ts : List T}, okL ts ↔ ∀ t ∈ ts, okT t
  | [] => by rw [okL]; simp
  | t :: ts => by rw [okL, okL_iff]; simp
mutual
/-- equal in all parts -/
def sameT : T → T → Bool
  | .mk a ts, .mk b us => if a = b then sameL ts us else false
def sameL : List T → List T → Bool
  | [], [] => true
  | [], _ :: _ => false
  | _ :: _, [] => false
  | t :: ts, u :: us => if sameT t u = true then sameL ts us else false
end
theorem sameT_mk (a b : ByteArray) (ts us : List T) : sameT (.mk a ts) (.mk b us) = if a = b then sameL ts us else false := by rw [sameT]
theorem sameL_nil : sameL [] [] = true := by rw [sameL]
theorem sameL_cons (t u : T) (ts us : List T) : sameL (t :: ts) (u :: us) = if sameT t u = true then sameL ts us else false := by rw [sameL]
theorem sameL_ne : ∀ {ts us : List T}, ts.length ≠ us.length → sameL ts us = false
  | [], [], h => absurd rfl h
  | [], _ :: _, _ => by rw [sameL]
  | _ :: _, [], _ => by rw [sameL]
  | t :: ts, u :: us, h => by
    rw [sameL_cons, sameL_ne (fun e => h (by simp [e]))]
    split <;> rfl
theorem sameL_refl : ∀ (ts : List T), (∀ t ∈ ts, sameT t t = true) → sameL ts ts = true
  | [], _ => sameL_nil
  | t :: ts, h => by rw [sameL_cons, if_pos (h t (by simp))]; exact sameL_refl ts fun u hu => h u (by simp [hu])
theorem sameT_refl (t : T) : sameT t t = true := by
  induction t using T.ind with
  | h a ts ih => rw [sameT_mk, if_pos rfl]; exact sameL_refl ts ih
theorem sameL_self (ts : List T) : sameL ts ts = true := sameL_refl ts fun t _ => sameT_refl t
mutual
/-- what is left of a weight -/
def wT : T → Int → Int
  | .mk a ts, l => wL ts (l - 1 - ((a.size / 100 : Nat) : Int))
def wL : List T → Int → Int
  | [], l => l
  | t :: ts, l => if 0 ≤ l then wL ts (wT t l) else l
end
theorem wT_mk (a : ByteArray) (ts : List T) (l : Int) : wT (.mk a ts) l = wL ts (l - 1 - ((a.size / 100 : Nat) : Int)) := by rw [wT]
theorem wL_nil (l : Int) : wL [] l = l := by rw [wL]
theorem wL_cons (t : T) (ts : List T) (l : Int) : wL (t :: ts) l = if 0 ≤ l then wL ts (wT t l) else l := by rw [wL]
theorem wL_neg {ts : List T} {l : Int} (h : l < 0) : wL ts l = l := by
  cases ts with
  | nil => exact wL_nil l
  | cons t ts => rw [wL_cons, if_neg (by omega)]
theorem wL_le : ∀ (ts : List T), (∀ t ∈ ts, ∀ l, wT t l ≤ l - 1) → ∀ l, wL ts l ≤ l
  | [], _, l => by rw [wL_nil]; exact Int.le_refl _
  | t :: ts, h, l => by
    rw [wL_cons]
    split
    · have h1 := wL_le ts (fun u hu => h u (by simp [hu])) (wT t l)
      have h2 := h t (by simp) l
      omega
    · exact Int.le_refl _
theorem wT_le (t : T) : ∀ l, wT t l ≤ l - 1 := by
  induction t using T.ind with
  | h a ts ih =>
    intro l
    rw [wT_mk]
    have := wL_le ts ih (l - 1 - ((a.size / 100 : Nat) : Int))
    omega
theorem wL_ge : ∀ (ts : List T), (∀ t ∈ ts, ∀ l, 0 ≤ l → -(maxLen : Int) - 1 ≤ wT t l) → ∀ l, -(maxLen : Int) - 1 ≤ l → -(maxLen : Int) - 1 ≤ wL ts l
  | [], _, l, h => by rw [wL_nil]; exact h
  | t :: ts, h, l, hl => by
    rw [wL_cons]
    split
    · rename_i h0
      exact wL_ge ts (fun u hu => h u (by simp [hu])) _ (h t (by simp) l h0)
    · exact hl
theorem wT_ge (t : T) (h : okT t) : ∀ l, 0 ≤ l → -(maxLen : Int) - 1 ≤ wT t l := by
  induction t using T.ind with
  | h a ts ih =>
    intro l hl
    rw [wT_mk]
    rw [okT_mk] at h
    refine wL_ge ts (fun u hu => ih u hu (okL_iff.1 h.2.2 u hu)) _ ?_
    have : a.size / 100 ≤ a.size := Nat.div_le_self _ _
    omega
mutual
/-- the number of all nodes -/
def nd : T → Nat
  | .mk a ts => ndL ts + 1
def ndL : List T → Nat
  | [] => 0
  | t :: ts => nd t + ndL ts
end
theorem nd_mk (a : ByteArray) (ts : List T) : nd (.mk a ts) = ndL ts + 1 := by rw [nd]
theorem ndL_nil : ndL [] = 0 := by rw [ndL]
theorem ndL_cons (t : T) (ts : List T) : ndL (t :: ts) = nd t + ndL ts := by rw [ndL]
theorem nd_pos (t : T) : 1 ≤ nd t := by cases t; rw [nd_mk]; omega
theorem ndL_get : ∀ {ts : List T} {k : Nat} (h : k < ts.length), nd ts[k] ≤ ndL ts
  | t :: ts, 0, h => by rw [ndL_cons]; simp
  | t :: ts, k + 1, h => by
    rw [ndL_cons]
    have := ndL_get (ts := ts) (k := k) (by simpa using h)
    simp
    omega
theorem ndL_len : ∀ (ts : List T), ts.length ≤ ndL ts
  | [] => by simp
  | t :: ts => by
    have h1 := ndL_len ts
    have h2 := nd_pos t
    rw [ndL_cons]
    simp
    omega
theorem ndL_mem {ts : List T} {t : T} (h : t ∈ ts) : nd t ≤ ndL ts := by
  obtain ⟨k, hk, rfl⟩ := List.getElem_of_mem h
  exact ndL_get hk
/-- sums of printed sizes -/
theorem wL_sum : ∀ (ts : List T) (f : T → Nat) (c : Nat), (∀ t ∈ ts, ∀ l, 0 ≤ wT t l → (f t : Int) ≤ c * (l - wT t l)) → ∀ l, 0 ≤ wL ts l → ((ts.map f).sum : Int) ≤ c * (l - wL ts l)
  | [], f, c, h, l, hl => by rw [wL_nil]; simp
  | t :: ts, f, c, h, l, hl => by
    rw [wL_cons] at hl ⊢
    split at hl
    · rename_i h0
      rw [if_pos h0]
      have hle := wL_le ts (fun u _ => wT_le u) (wT t l)
      have h1 := wL_sum ts f c (fun u hu => h u (by simp [hu])) (wT t l) hl
      have h2 := h t (by simp) l (by omega)
      simp only [List.map_cons, List.sum_cons, Int.natCast_add]
      have e : (c : Int) * (l - wL ts (wT t l)) = c * (l - wT t l) + c * (wT t l - wL ts (wT t l)) := by rw [← Int.mul_add]; congr 1; omega
      omega
    · omega
theorem ndL_sum : ∀ (ts : List T), ndL ts = (ts.map nd).sum
  | [] => by rw [ndL_nil]; rfl
  | t :: ts => by rw [ndL_cons, ndL_sum ts]; rfl
theorem nd_w (t : T) : ∀ l, 0 ≤ wT t l → (nd t : Int) ≤ 1 * (l - wT t l) := by
  induction t using T.ind with
  | h a ts ih =>
    intro l hl
    rw [wT_mk] at hl ⊢
    have := wL_sum ts nd 1 ih _ hl
    rw [nd_mk, ndL_sum]
    omega
theorem few_nd {t : T} {l : Nat} (h : 0 ≤ wT t (l : Int)) : nd t ≤ l := by
  have := nd_w t _ h
  omega
/-! validity -/
def atB (a : ByteArray) : Bool := if ae (xo a) 0 = a.size then true else false
mutual
def riT : T → Bool
  | .mk a ts => if a.size = 0 then riL ts else if ts.length = 0 then atB a else false
def riL : List T → Bool
  | [] => true
  | t :: ts => if riT t = true then riL ts else false
end
theorem riT_mk (a : ByteArray) (ts : List T) : riT (.mk a ts) = if a.size = 0 then riL ts else if ts.length = 0 then atB a else false := by rw [riT]
theorem riL_nil : riL [] = true := by rw [riL]
theorem riL_cons (t : T) (ts : List T) : riL (t :: ts) = if riT t = true then riL ts else false := by rw [riL]
theorem riL_iff : ∀ {ts : List T}, riL ts = true ↔ ∀ t ∈ ts, riT t = true
  | [] => by rw [riL_nil]; simp
  | t :: ts => by
    rw [riL_cons]
    split
    · rename_i h; rw [riL_iff]; simp [h]
    · rename_i h; simp [h]
mutual
def dpT : T → Nat
  | .mk a ts => (if a.size = 0 then dpL 0 ts else 0) + 1
def dpL : Nat → List T → Nat
  | m, [] => m
  | m, t :: ts => dpL (max m (dpT t)) ts
end
theorem dpT_mk (a : ByteArray) (ts : List T) : dpT (.mk a ts) = (if a.size = 0 then dpL 0 ts else 0) + 1 := by rw [dpT]
theorem dpL_nil (m : Nat) : dpL m [] = m := by rw [dpL]
theorem dpL_cons (m : Nat) (t : T) (ts : List T) : dpL m (t :: ts) = dpL (max m (dpT t)) ts := by rw [dpL]
theorem dpL_ge : ∀ (ts : List T) (m : Nat), m ≤ dpL m ts
  | [], m => by rw [dpL_nil]; exact Nat.le_refl _
  | t :: ts, m => by rw [dpL_cons]; exact Nat.le_trans (Nat.le_max_left _ _) (dpL_ge ts _)
theorem dpL_mem : ∀ {ts : List T} {m : Nat} {t : T}, t ∈ ts → dpT t ≤ dpL m ts
  | u :: ts, m, t, h => by
    rw [dpL_cons]
    rcases List.mem_cons.1 h with rfl | h
    · exact Nat.le_trans (Nat.le_max_right _ _) (dpL_ge ts _)
    · exact dpL_mem h
theorem dpL_le : ∀ {ts : List T} {m n : Nat}, m ≤ n → (∀ t ∈ ts, dpT t ≤ n) → dpL m ts ≤ n
  | [], m, n, h, _ => by rw [dpL_nil]; exact h
  | t :: ts, m, n, h, k => by
    rw [dpL_cons]
    exact dpL_le (Nat.max_le.2 ⟨h, k t (by simp)⟩) fun u hu => k u (by simp [hu])
theorem dp_nd (t : T) : dpT t ≤ nd t := by
  induction t using T.ind with
  | h a ts ih =>
    rw [dpT_mk, nd_mk]
    split
    · have := dpL_le (ts := ts) (m := 0) (n := ndL ts) (Nat.zero_le _) fun t ht => Nat.le_trans (ih t ht) (ndL_mem ht)
      omega
    · omega
mutual
def cnT : T → Nat
  | .mk a ts => if a.size = 0 then cnL 1 ts else 1
def cnL : Nat → List T → Nat
  | m, [] => m
  | m, t :: ts => cnL (m + cnT t) ts
end
theorem cnT_mk (a : ByteArray) (ts : List T) : cnT (.mk a ts) = if a.size = 0 then cnL 1 ts else 1 := by rw [cnT]
theorem cnL_nil (m : Nat) : cnL m [] = m := by rw [cnL]
theorem cnL_cons (m : Nat) (t : T) (ts : List T) : cnL m (t :: ts) = cnL (m + cnT t) ts := by rw [cnL]
theorem cnL_ge : ∀ (ts : List T) (m : Nat), m ≤ cnL m ts
  | [], m => by rw [cnL_nil]; exact Nat.le_refl _
  | t :: ts, m => by rw [cnL_cons]; exact Nat.le_trans (Nat.le_add_right _ _) (cnL_ge ts _)
theorem cnL_nd : ∀ (ts : List T) (m : Nat), (∀ t ∈ ts, cnT t ≤ nd t) → cnL m ts ≤ m + ndL ts
  | [], m, _ => by rw [cnL_nil]; omega
  | t :: ts, m, h => by
    rw [cnL_cons, ndL_cons]
    have h1 := cnL_nd ts (m + cnT t) (fun u hu => h u (by simp [hu]))
    have h2 := h t (by simp)
    omega
theorem cn_nd (t : T) : cnT t ≤ nd t := by
  induction t using T.ind with
  | h a ts ih =>
    rw [cnT_mk, nd_mk]
    split
    · have := cnL_nd ts 1 ih; omega
    · omega
/-- valid -/
def vaT (t : T) : Bool := if riT t = true ∧ dpT t ≤ 64 then true else false
theorem vaT_iff {t : T} : vaT t = true ↔ riT t = true ∧ dpT t ≤ 64 := by unfold vaT; split <;> simp_all
end Go.Proofs.Ytgiheheakgigkaa
