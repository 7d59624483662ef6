/- Numbers in a block of one's own; Depth. -/
import Derived.Test.YtnlpiaejfmdckaaDoorD
import Derived.Laws.MakeOwn
namespace Go.Proofs.YtnlpiaejfmdckaaDoor
open Go.RowKit
set_option linter.unusedVariables false
set_option linter.unusedSimpArgs false
def ia (L : List Int) : Array Value := (L.map (Value.int .i64)).toArray
theorem ia_get {L : List Int} {k : Nat} (h : k < L.length) : (ia L)[k]? = some (.int .i64 L[k]) := by simp [ia, h]
/-- numbers in a block -/
def Ir (w : World) (g : Nat) (L : List Int) : Prop := w.heap[g]? = some (.cells (ia L) 3 (0, 0))
theorem Ir.c {w : World} {g : Nat} {L : List Int} (h : Ir w g L) {k : Nat} (hk : k < L.length) : w.cell? ⟨g, k, none⟩ = some (.int .i64 L[k]) := by
  rw [cell_of_row w g k _ 3 (0, 0) h, ia_get hk]
theorem Ir.f {w : World} {g : Nat} {L : List Int} (h : Ir w g L) (k : Nat) : w.frozen? ⟨g, k, none⟩ = false := frozen_of_row w g k _ 3 h
theorem Ir.bk {w w' : World} {g : Nat} {L : List Int} (h : Ir w g L) (hb : BK w w') : Ir w' g L := (bk_block hb (Array.getElem?_eq_some_iff.1 h).1).trans h
theorem Ir.lt {w : World} {g : Nat} {L : List Int} (h : Ir w g L) : g < w.heap.size := (Array.getElem?_eq_some_iff.1 h).1
theorem Ir.set {w : World} {g : Nat} {L : List Int} (h : Ir w g L) (k : Nat) (z : Int) : Ir (w.setCell ⟨g, k, none⟩ (.int .i64 z)) g (L.set k z) := by
  unfold Ir
  rw [heap_setCell_same w g k _ 3 _ h]
  congr 2
  unfold ia
  apply Array.ext'
  simp [List.map_set]
theorem Ir.row {w : World} {g : Nat} {L : List Int} (h : Ir w g L) {D : Nat → Prop} (hD : D g) {c : Nat} (hc : L.length ≤ c) : RowI D w (some ⟨g, 0, none⟩) c L :=
  .inr ⟨g, 0, rfl, hD, fun k hk => by rw [Nat.zero_add]; exact h.c hk, hc⟩
theorem info3 : (Tryd.prog.info? 3).map (fun i => (i.zero, i.size, i.bytes)) = some (some (.int .i64 0), 1, 8) := by kernel_rfl
theorem made_i (n : Nat) : madeCells (Value.int .i64 0).cells (n * 1) = ia (List.replicate n 0) := by
  apply Array.ext
  · simp [madeCells, ia]
  · intro i h1 h2
    simp [madeCells, Value.cells, Nat.mod_one, ia]
theorem make34 (n : Nat) (h : n ≤ 100000) (w : World) : (Instr.makeSlice 34 (.int .i64 (n : Int)) (.int .i64 (n : Int))).run Tryd.prog w = .ok (.slice (some ⟨w.heap.size, 0, none⟩) n n) (w.alloc (.cells (ia (List.replicate n 0)) 3)) := by
  obtain ⟨i0, hi, hz0, hz1, hz2⟩ := info_parts info3
  have hr := run_make (P := Tryd.prog) w 34 3 i0 (.int .i64 0) Tryd.underlying34 hi hz0 .i64 .i64 n n (by omega) (by omega) (by rw [hz2]; omega) (by omega)
  simp only [Int.toNat_natCast] at hr
  rw [hz1, made_i] at hr
  exact hr
/-! depths -/
def dpR (acc : List Int) : Int → List Int → Int
  | m, [] => m
  | m, r :: rs => dpR acc (max m (acc.getD r.toNat 0)) rs
theorem dpR_cons (acc : List Int) (m r : Int) (rs : List Int) : dpR acc m (r :: rs) = dpR acc (max m (acc.getD r.toNat 0)) rs := rfl
def dps : List Int → List S → List Int
  | acc, [] => acc
  | acc, s :: ss => dps (acc ++ [dpR acc 0 s.rf + 1]) ss
theorem dps_cons (acc : List Int) (s : S) (ss : List S) : dps acc (s :: ss) = dps (acc ++ [dpR acc 0 s.rf + 1]) ss := rfl
theorem dps_len : ∀ (ss : List S) (acc : List Int), (dps acc ss).length = acc.length + ss.length
  | [], acc => rfl
  | s :: ss, acc => by rw [dps_cons, dps_len ss]; simp; omega
def dpt (ss : List S) : Int := if vld ss = true then (dps [] ss).getD (ss.length - 1) 0 else 0
theorem fb_ok : ∀ {ss : List S} {i : Nat}, (fb i ss).2 = 0 → ∀ k (h : k < ss.length), wellB ss[k] (i + k) = true
  | s :: ss, i, h, k, hk => by
    rw [fb_cons] at h
    split at h
    · rename_i hw
      match k, hk with
      | 0, _ => simpa using hw
      | k + 1, hk =>
        have := fb_ok h k (by simpa using hk)
        rw [show i + (k + 1) = i + 1 + k by omega]
        simpa using this
    · simp at h
theorem vld_ok {ss : List S} (h : vld ss = true) : ss.length ≤ 65536 ∧ 0 < ss.length ∧ ∀ k (h : k < ss.length), wellB ss[k] k = true := by
  unfold vld at h
  split at h
  · rename_i h0
    unfold chk at h0
    split at h0
    · simp at h0
    · split at h0
      · simp at h0
      · refine ⟨by omega, by omega, fun k hk => ?_⟩
        have := fb_ok h0 k hk
        rwa [Nat.zero_add] at this
  · cases h
theorem allB_mem : ∀ {zs : List Int} {i : Int}, allB i zs = true → ∀ r ∈ zs, 0 ≤ r ∧ r < i
  | z :: zs, i, h, r, hr => by
    rw [allB_cons] at h
    split at h
    · rename_i hz
      rcases List.mem_cons.1 hr with rfl | hr
      · exact hz
      · exact allB_mem h r hr
    · cases h
theorem well_all {s : S} {i : Nat} (h : wellB s i = true) : allB (i : Int) s.rf = true := by
  unfold wellB at h
  split at h
  · exact h
  · cases h
theorem well_mem {s : S} {i : Nat} (h : wellB s i = true) : ∀ r ∈ s.rf, 0 ≤ r ∧ r < (i : Int) := allB_mem (well_all h)
theorem dpR_bd {acc : List Int} {b : Int} (h : ∀ z ∈ acc, 0 ≤ z ∧ z ≤ b) : ∀ (rs : List Int) (m : Int), 0 ≤ m → m ≤ b → 0 ≤ dpR acc m rs ∧ dpR acc m rs ≤ b
  | [], m, h0, h1 => ⟨h0, h1⟩
  | r :: rs, m, h0, h1 => by
    rw [dpR_cons]
    have hg : 0 ≤ acc.getD r.toNat 0 ∧ acc.getD r.toNat 0 ≤ b := by
      rw [List.getD_eq_getElem?_getD]
      by_cases hr : r.toNat < acc.length
      · rw [List.getElem?_eq_getElem hr]; exact h _ (List.getElem_mem hr)
      · rw [List.getElem?_eq_none (by omega)]; exact ⟨Int.le_refl _, by simp; omega⟩
    exact dpR_bd h rs _ (by omega) (by omega)
theorem rep_get (acc : List Int) (d r : Nat) (h : r < acc.length) : (acc ++ List.replicate d 0)[r]'(by simp; omega) = acc.getD r 0 := by
  rw [List.getElem_append_left h, List.getD_eq_getElem?_getD, List.getElem?_eq_getElem h]
  rfl
theorem rep_set (acc : List Int) (d : Nat) (z : Int) : (acc ++ List.replicate (d + 1) 0).set acc.length z = (acc ++ [z]) ++ List.replicate d 0 := by
  rw [List.replicate_succ, List.set_append_right _ _ (Nat.le_refl _), Nat.sub_self]
  simp
end Go.Proofs.YtnlpiaejfmdckaaDoor
