/- The law of the cost of shared terms, walked. -/
import Derived.Test.YtmejiiebeknbjaaDoorZ
import Derived.Test.YtmejiiebeknbjaaDoorM
import Derived.Deep.DeepCutAuto
namespace Go.Proofs.YtmejiiebeknbjaaDoor
open Go.RowKit Go.Maps
set_option linter.unusedVariables false
set_option linter.unusedSimpArgs false
theorem row123 {w : World} {op1 wd1 : Int} {vl1 : Nat} {nm1 : ByteArray} {ts1 : List T} {p1 : Option Addr} {c1 : Nat} {op2 wd2 : Int} {vl2 : Nat} {nm2 : ByteArray} {ts2 : List T} {p2 : Option Addr} {c2 : Nat} {op3 wd3 : Int} {vl3 : Nat} {nm3 : ByteArray} {ts3 : List T} {p3 : Option Addr} {c3 : Nat} (h1 : Row w p1 c1 ts1) (f1 : Wf op1 wd1 vl1 nm1) (h2 : Row w p2 c2 ts2) (f2 : Wf op2 wd2 vl2 nm2) (h3 : Row w p3 c3 ts3) (f3 : Wf op3 wd3 vl3 nm3) :
    Row (w.alloc (.cells #[.int .i64 op1, .int .i64 wd1, .int .u64 vl1, .string nm1, .slice p1 ts1.length c1, .int .i64 op2, .int .i64 wd2, .int .u64 vl2, .string nm2, .slice p2 ts2.length c2, .int .i64 op3, .int .i64 wd3, .int .u64 vl3, .string nm3, .slice p3 ts3.length c3] 34)) (some ⟨w.heap.size, 0, none⟩) 3 [T.mk op1 wd1 vl1 nm1 ts1, T.mk op2 wd2 vl2 nm2 ts2, T.mk op3 wd3 vl3 nm3 ts3] := by
  have h0 := heap_alloc_new w (.cells #[.int .i64 op1, .int .i64 wd1, .int .u64 vl1, .string nm1, .slice p1 ts1.length c1, .int .i64 op2, .int .i64 wd2, .int .u64 vl2, .string nm2, .slice p2 ts2.length c2, .int .i64 op3, .int .i64 wd3, .int .u64 vl3, .string nm3, .slice p3 ts3.length c3] 34)
  have k1 := h1.keep (bk_alloc (BK.refl w) (.cells #[.int .i64 op1, .int .i64 wd1, .int .u64 vl1, .string nm1, .slice p1 ts1.length c1, .int .i64 op2, .int .i64 wd2, .int .u64 vl2, .string nm2, .slice p2 ts2.length c2, .int .i64 op3, .int .i64 wd3, .int .u64 vl3, .string nm3, .slice p3 ts3.length c3] 34))
  have k2 := h2.keep (bk_alloc (BK.refl w) (.cells #[.int .i64 op1, .int .i64 wd1, .int .u64 vl1, .string nm1, .slice p1 ts1.length c1, .int .i64 op2, .int .i64 wd2, .int .u64 vl2, .string nm2, .slice p2 ts2.length c2, .int .i64 op3, .int .i64 wd3, .int .u64 vl3, .string nm3, .slice p3 ts3.length c3] 34))
  have k3 := h3.keep (bk_alloc (BK.refl w) (.cells #[.int .i64 op1, .int .i64 wd1, .int .u64 vl1, .string nm1, .slice p1 ts1.length c1, .int .i64 op2, .int .i64 wd2, .int .u64 vl2, .string nm2, .slice p2 ts2.length c2, .int .i64 op3, .int .i64 wd3, .int .u64 vl3, .string nm3, .slice p3 ts3.length c3] 34))
  generalize w.alloc (.cells #[.int .i64 op1, .int .i64 wd1, .int .u64 vl1, .string nm1, .slice p1 ts1.length c1, .int .i64 op2, .int .i64 wd2, .int .u64 vl2, .string nm2, .slice p2 ts2.length c2, .int .i64 op3, .int .i64 wd3, .int .u64 vl3, .string nm3, .slice p3 ts3.length c3] 34) = W at h0 k1 k2 k3 ⊢
  refine .inr ⟨_, _, rfl, ?_, by unfold maxLen; simp⟩
  rw [AtL, AtL, AtL, AtL]
  refine ⟨?_, ?_, ?_, trivial⟩
  · rw [at_mk]
    refine ⟨p1, c1, ⟨?_, ?_, ?_, ?_, ?_⟩, f1, k1⟩
    all_goals rw [cell_of_row W _ _ _ _ _ h0]; rfl
  · rw [at_mk]
    refine ⟨p2, c2, ⟨?_, ?_, ?_, ?_, ?_⟩, f2, k2⟩
    all_goals rw [cell_of_row W _ _ _ _ _ h0]; rfl
  · rw [at_mk]
    refine ⟨p3, c3, ⟨?_, ?_, ?_, ?_, ?_⟩, f3, k3⟩
    all_goals rw [cell_of_row W _ _ _ _ _ h0]; rfl
theorem fifteen {w : World} {b : Nat} {x0 x1 x2 x3 x4 x5 x6 x7 x8 x9 x10 x11 x12 x13 x14 : Value} (h : w.heap[b]? = some (.cells #[x0, x1, x2, x3, x4, x5, x6, x7, x8, x9, x10, x11, x12, x13, x14] 38 (0, 0))) : w.cell? ⟨b, 0, none⟩ = some x0 ∧ w.cell? ⟨b, 1, none⟩ = some x1 ∧ w.cell? ⟨b, 2, none⟩ = some x2 ∧ w.cell? ⟨b, 3, none⟩ = some x3 ∧ w.cell? ⟨b, 4, none⟩ = some x4 ∧ w.cell? ⟨b, 5, none⟩ = some x5 ∧ w.cell? ⟨b, 6, none⟩ = some x6 ∧ w.cell? ⟨b, 7, none⟩ = some x7 ∧ w.cell? ⟨b, 8, none⟩ = some x8 ∧ w.cell? ⟨b, 9, none⟩ = some x9 ∧ w.cell? ⟨b, 10, none⟩ = some x10 ∧ w.cell? ⟨b, 11, none⟩ = some x11 ∧ w.cell? ⟨b, 12, none⟩ = some x12 ∧ w.cell? ⟨b, 13, none⟩ = some x13 ∧ w.cell? ⟨b, 14, none⟩ = some x14 := by
  refine ⟨?_, ?_, ?_, ?_, ?_, ?_, ?_, ?_, ?_, ?_, ?_, ?_, ?_, ?_, ?_⟩ <;> (rw [cell_of_row w b _ _ _ _ h]; rfl)
theorem row_nil (w : World) : Row w none 0 [] := .inl ⟨rfl, fun _ => rfl⟩
theorem b5_heap {w : World} {b : Nat} {x0 x1 x2 x3 x4 : Value} (h : w.heap[b]? = some (.cells #[x0, x1, x2, x3, x4] 34 (0, 0))) : B5 w b x0 x1 x2 x3 x4 := by
  refine ⟨?_, ?_, ?_, ?_, ?_⟩ <;> (rw [cell_of_row w b _ _ _ _ h]; rfl)
theorem fresh3 (w : World) (A B C : Array Value) : (((w.alloc (.cells A 34)).alloc (.cells B 34)).alloc (.cells C 34)).heap[w.heap.size]? = some (.cells A 34 (0, 0)) ∧ (((w.alloc (.cells A 34)).alloc (.cells B 34)).alloc (.cells C 34)).heap[w.heap.size + 1]? = some (.cells B 34 (0, 0)) ∧ (((w.alloc (.cells A 34)).alloc (.cells B 34)).alloc (.cells C 34)).heap[w.heap.size + 1 + 1]? = some (.cells C 34 (0, 0)) ∧ BK w (((w.alloc (.cells A 34)).alloc (.cells B 34)).alloc (.cells C 34)) := by
  have s1 : (w.alloc (.cells A 34)).heap.size = w.heap.size + 1 := by simp
  have s2 : ((w.alloc (.cells A 34)).alloc (.cells B 34)).heap.size = w.heap.size + 1 + 1 := by simp
  refine ⟨?_, ?_, ?_, bk_alloc (bk_alloc (bk_alloc (BK.refl _) _) _) _⟩
  · rw [heap_alloc_old _ _ (by rw [s2]; omega), heap_alloc_old _ _ (by rw [s1]; omega)]; exact heap_alloc_new _ _
  · rw [heap_alloc_old _ _ (by rw [s2]; omega), ← s1]; exact heap_alloc_new _ _
  · rw [← s2]; exact heap_alloc_new _ _
theorem row123m {w : World} {n : Nat} {op1 wd1 : Int} {vl1 : Nat} {nm1 : ByteArray} {ts1 : List T} {p1 : Option Addr} {c1 : Nat} {op2 wd2 : Int} {vl2 : Nat} {nm2 : ByteArray} {ts2 : List T} {p2 : Option Addr} {c2 : Nat} {op3 wd3 : Int} {vl3 : Nat} {nm3 : ByteArray} {ts3 : List T} {p3 : Option Addr} {c3 : Nat} (hn : w.heap.size = n) (h1 : Row w p1 c1 ts1) (f1 : Wf op1 wd1 vl1 nm1) (h2 : Row w p2 c2 ts2) (f2 : Wf op2 wd2 vl2 nm2) (h3 : Row w p3 c3 ts3) (f3 : Wf op3 wd3 vl3 nm3) : Row (w.alloc (.cells #[.int .i64 op1, .int .i64 wd1, .int .u64 vl1, .string nm1, .slice p1 ts1.length c1, .int .i64 op2, .int .i64 wd2, .int .u64 vl2, .string nm2, .slice p2 ts2.length c2, .int .i64 op3, .int .i64 wd3, .int .u64 vl3, .string nm3, .slice p3 ts3.length c3] 34)) (some ⟨n, 0, none⟩) 3 [T.mk op1 wd1 vl1 nm1 ts1, T.mk op2 wd2 vl2 nm2 ts2, T.mk op3 wd3 vl3 nm3 ts3] := hn ▸ row123 h1 f1 h2 f2 h3 f3
theorem sixteen {w' : World} {a b c d : Nat} {L : List Value} {x0 x1 x2 x3 x4 y0 y1 y2 y3 y4 z0 z1 z2 z3 z4 : Value} (hr : w'.rangeAt a 0 L) (h : B5 w' b x0 x1 x2 x3 x4) (k : B5 w' c y0 y1 y2 y3 y4) (l : B5 w' d z0 z1 z2 z3 z4) : w'.rangeAt a 0 L ∧ w'.cell? ⟨b, 0, none⟩ = some x0 ∧ w'.cell? ⟨b, 1, none⟩ = some x1 ∧ w'.cell? ⟨b, 2, none⟩ = some x2 ∧ w'.cell? ⟨b, 3, none⟩ = some x3 ∧ w'.cell? ⟨b, 4, none⟩ = some x4 ∧ w'.cell? ⟨c, 0, none⟩ = some y0 ∧ w'.cell? ⟨c, 1, none⟩ = some y1 ∧ w'.cell? ⟨c, 2, none⟩ = some y2 ∧ w'.cell? ⟨c, 3, none⟩ = some y3 ∧ w'.cell? ⟨c, 4, none⟩ = some y4 ∧ w'.cell? ⟨d, 0, none⟩ = some z0 ∧ w'.cell? ⟨d, 1, none⟩ = some z1 ∧ w'.cell? ⟨d, 2, none⟩ = some z2 ∧ w'.cell? ⟨d, 3, none⟩ = some z3 ∧ w'.cell? ⟨d, 4, none⟩ = some z4 :=
  ⟨hr, h.1, h.2.1, h.2.2.1, h.2.2.2.1, h.2.2.2.2, k.1, k.2.1, k.2.2.1, k.2.2.2.1, k.2.2.2.2, l⟩
def RefC (cs : List Int) (ts : List T) (n : Nat) (r : Int) : Prop := ∀ (wc : World) (p : Option Addr) (c : Nat), Row wc p c ts →
  Calls Tryd.prog 19 #[.agg (ca cs), .slice p n c] wc fun e w' => e = .returned (.int .i64 r) ∧ BK wc w'
theorem dags_calls (cs : List Int) (hcs : cs.length = 32) (t u v : T) (ht : smallB t 40 = true) (hu : smallB u 40 = true) (hv : smallB v 40 = true) :
    ∃ s r, DagC cs [] 0 0 ∧ DagC cs [t] 1 s ∧ RefC cs [t] 1 s ∧ DagC cs [t, u, v] 3 r ∧ RefC cs [t, u, v] 3 r := by
  have h1 := small_size (by omega) ht
  have h2 := small_size (by omega) hu
  have h3 := small_size (by omega) hv
  have h0 := dagC cs hcs [] (by simp only [sizeL]; omega)
  rw [subsL_nil] at h0
  exact ⟨_, _, h0, dagC cs hcs [t] (by simp only [sizeL]; omega), fun wc p c hr => dag19 cs hcs [t] wc p c hr (by simp only [sizeL]; omega), dagC cs hcs [t, u, v] (by simp only [sizeL]; omega), fun wc p c hr => dag19 cs hcs [t, u, v] wc p c hr (by simp only [sizeL]; omega)⟩
set_option maxRecDepth 100000 in
set_option maxHeartbeats 20000000 in
theorem dags_law (cs : List Int) (hcs : cs.length = 32) (op1 wd1 : Int) (vl1 : Nat) (nm1 : ByteArray) (ts1 : List T) (p1 : Option Addr) (c1 : Nat) (op2 wd2 : Int) (vl2 : Nat) (nm2 : ByteArray) (ts2 : List T) (p2 : Option Addr) (c2 : Nat) (op3 wd3 : Int) (vl3 : Nat) (nm3 : ByteArray) (ts3 : List T) (p3 : Option Addr) (c3 : Nat) (w : World) (hr1 : Row w p1 c1 ts1) (hr2 : Row w p2 c2 ts2) (hr3 : Row w p3 c3 ts3) (hf1 : Wf op1 wd1 vl1 nm1) (hf2 : Wf op2 wd2 vl2 nm2) (hf3 : Wf op3 wd3 vl3 nm3) (htb : Tb w) :
    Calls Tryd.prog 5 #[.agg (ca cs), .agg #[.int .i64 op1, .int .i64 wd1, .int .u64 vl1, .string nm1, .slice p1 ts1.length c1, .int .i64 op2, .int .i64 wd2, .int .u64 vl2, .string nm2, .slice p2 ts2.length c2, .int .i64 op3, .int .i64 wd3, .int .u64 vl3, .string nm3, .slice p3 ts3.length c3]] w fun e w' => e = .returned (.bool true) ∧ BK w w' := by
  have s1 : (w.alloc (.cells (ca cs) 23)).heap.size = w.heap.size + 1 := by simp
  have hblk := heap_alloc_new (w.alloc (.cells (ca cs) 23)) (.cells #[.int .i64 op1, .int .i64 wd1, .int .u64 vl1, .string nm1, .slice p1 ts1.length c1, .int .i64 op2, .int .i64 wd2, .int .u64 vl2, .string nm2, .slice p2 ts2.length c2, .int .i64 op3, .int .i64 wd3, .int .u64 vl3, .string nm3, .slice p3 ts3.length c3] 38)
  rw [s1] at hblk
  have hk0 := bk_alloc (bk_alloc (BK.refl w) (.cells (ca cs) 23)) (.cells #[.int .i64 op1, .int .i64 wd1, .int .u64 vl1, .string nm1, .slice p1 ts1.length c1, .int .i64 op2, .int .i64 wd2, .int .u64 vl2, .string nm2, .slice p2 ts2.length c2, .int .i64 op3, .int .i64 wd3, .int .u64 vl3, .string nm3, .slice p3 ts3.length c3] 38)
  have hrow : ((w.alloc (.cells (ca cs) 23)).alloc (.cells #[.int .i64 op1, .int .i64 wd1, .int .u64 vl1, .string nm1, .slice p1 ts1.length c1, .int .i64 op2, .int .i64 wd2, .int .u64 vl2, .string nm2, .slice p2 ts2.length c2, .int .i64 op3, .int .i64 wd3, .int .u64 vl3, .string nm3, .slice p3 ts3.length c3] 38)).heap[w.heap.size]? = some (.cells (ca cs) 23 (0, 0)) := by
    rw [heap_alloc_old _ _ (by rw [s1]; omega)]; exact heap_alloc_new w _
  have HR1 := Lib.hid (fun wc (hb : BK w wc) => hr1.keep hb)
  have HR2 := Lib.hid (fun wc (hb : BK w wc) => hr2.keep hb)
  have HR3 := Lib.hid (fun wc (hb : BK w wc) => hr3.keep hb)
  have HTB := Lib.hid (fun wc (hb : BK w wc) => htb.keep hb)
  have HF := Lib.hid (And.intro hf1 (And.intro hf2 hf3))
  clear hr1 hr2 hr3 htb hf1 hf2 hf3 s1
  go_enter Tryd.func5, Tryd.ntmps5
  go_upto_region 1 with fail
  generalize (w.alloc (.cells (ca cs) 23)).alloc (.cells #[.int .i64 op1, .int .i64 wd1, .int .u64 vl1, .string nm1, .slice p1 ts1.length c1, .int .i64 op2, .int .i64 wd2, .int .u64 vl2, .string nm2, .slice p2 ts2.length c2, .int .i64 op3, .int .i64 wd3, .int .u64 vl3, .string nm3, .slice p3 ts3.length c3] 38) = w0 at hblk hk0 hrow ⊢
  have hl0 : w.heap.size < w0.heap.size := (Array.getElem?_eq_some_iff.1 hrow).1
  have HBL := Lib.hid (fun wc (hb : BK w0 wc) => ((show Below w0.heap.size w0 wc from hb).block w.heap.size hl0).trans hrow)
  have HROW := Lib.hid (fun wc (hb : BK w0 wc) => range_ca (cs := cs) (HBL.out wc hb))
  have HK0 := Lib.hid hk0
  have x0 : w0.cell? ⟨w.heap.size + 1, 0, none⟩ = some (.int .i64 op1) := by rw [cell_of_row w0 _ _ _ _ _ hblk]; rfl
  have x1 : w0.cell? ⟨w.heap.size + 1, 1, none⟩ = some (.int .i64 wd1) := by rw [cell_of_row w0 _ _ _ _ _ hblk]; rfl
  have x2 : w0.cell? ⟨w.heap.size + 1, 2, none⟩ = some (.int .u64 vl1) := by rw [cell_of_row w0 _ _ _ _ _ hblk]; rfl
  have x3 : w0.cell? ⟨w.heap.size + 1, 3, none⟩ = some (.string nm1) := by rw [cell_of_row w0 _ _ _ _ _ hblk]; rfl
  have x4 : w0.cell? ⟨w.heap.size + 1, 4, none⟩ = some (.slice p1 ts1.length c1) := by rw [cell_of_row w0 _ _ _ _ _ hblk]; rfl
  have x5 : w0.cell? ⟨w.heap.size + 1, 5, none⟩ = some (.int .i64 op2) := by rw [cell_of_row w0 _ _ _ _ _ hblk]; rfl
  have x6 : w0.cell? ⟨w.heap.size + 1, 6, none⟩ = some (.int .i64 wd2) := by rw [cell_of_row w0 _ _ _ _ _ hblk]; rfl
  have x7 : w0.cell? ⟨w.heap.size + 1, 7, none⟩ = some (.int .u64 vl2) := by rw [cell_of_row w0 _ _ _ _ _ hblk]; rfl
  have x8 : w0.cell? ⟨w.heap.size + 1, 8, none⟩ = some (.string nm2) := by rw [cell_of_row w0 _ _ _ _ _ hblk]; rfl
  have x9 : w0.cell? ⟨w.heap.size + 1, 9, none⟩ = some (.slice p2 ts2.length c2) := by rw [cell_of_row w0 _ _ _ _ _ hblk]; rfl
  have x10 : w0.cell? ⟨w.heap.size + 1, 10, none⟩ = some (.int .i64 op3) := by rw [cell_of_row w0 _ _ _ _ _ hblk]; rfl
  have x11 : w0.cell? ⟨w.heap.size + 1, 11, none⟩ = some (.int .i64 wd3) := by rw [cell_of_row w0 _ _ _ _ _ hblk]; rfl
  have x12 : w0.cell? ⟨w.heap.size + 1, 12, none⟩ = some (.int .u64 vl3) := by rw [cell_of_row w0 _ _ _ _ _ hblk]; rfl
  have x13 : w0.cell? ⟨w.heap.size + 1, 13, none⟩ = some (.string nm3) := by rw [cell_of_row w0 _ _ _ _ _ hblk]; rfl
  have x14 : w0.cell? ⟨w.heap.size + 1, 14, none⟩ = some (.slice p3 ts3.length c3) := by rw [cell_of_row w0 _ _ _ _ _ hblk]; rfl
  have HC := Lib.hid (fun wc (hb : BK w0 wc) => fifteen (((show Below w0.heap.size w0 wc from hb).block (w.heap.size + 1) (Array.getElem?_eq_some_iff.1 hblk).1).trans hblk))
  clear hblk hrow hk0 hl0
  go_cut [5, 6, 7] from 8 (fun x y z wx => ∃ a b d : Nat, x = .pointer (some ⟨a, 0, none⟩) ∧ y = .pointer (some ⟨b, 0, none⟩) ∧ z = .pointer (some ⟨d, 0, none⟩) ∧ B5 wx a (.int .i64 op1) (.int .i64 wd1) (.int .u64 vl1) (.string nm1) (.slice p1 ts1.length c1) ∧ B5 wx b (.int .i64 op2) (.int .i64 wd2) (.int .u64 vl2) (.string nm2) (.slice p2 ts2.length c2) ∧ B5 wx d (.int .i64 op3) (.int .i64 wd3) (.int .u64 vl3) (.string nm3) (.slice p3 ts3.length c3) ∧ BK w0 wx)
  case first =>
    have hkI := bk_drew (BK.refl w0)
    refine wp_region_held_drew (S := fun w' => BK w0 w') (by kernel_rfl) (hkI) (fun hHeld => ?_)
    generalize w0.drew = wI at hHeld hkI ⊢
    refine wpAnyH_take (i := 0) (v := .pointer (some ⟨w.heap.size + 1, 0, none⟩)) rfl (by kernel_rfl) (by kernel_rfl) (by kernel_rfl) (fun _ _ _ h => h) (Or.inl ⟨by kernel_rfl, fun w hSw => by (go_simp)⟩) hHeld ?_
    try simp only [Act.put, List.setIfInBounds_toArray, List.set_cons_zero, List.set_cons_succ]
    refine wpAnyH_take (i := 2) (v := .pointer (some ⟨w.heap.size + 1, 5, none⟩)) rfl (by kernel_rfl) (by kernel_rfl) (by kernel_rfl) (fun _ _ _ h => h) (Or.inl ⟨by kernel_rfl, fun w hSw => by (go_simp)⟩) hHeld ?_
    try simp only [Act.put, List.setIfInBounds_toArray, List.set_cons_zero, List.set_cons_succ]
    refine wpAnyH_take (i := 4) (v := .pointer (some ⟨w.heap.size + 1, 10, none⟩)) rfl (by kernel_rfl) (by kernel_rfl) (by kernel_rfl) (fun _ _ _ h => h) (Or.inl ⟨by kernel_rfl, fun w hSw => by (go_simp)⟩) hHeld ?_
    try simp only [Act.put, List.setIfInBounds_toArray, List.set_cons_zero, List.set_cons_succ]
    refine wpAnyH_take (i := 1) (v := .agg #[.int .i64 op1, .int .i64 wd1, .int .u64 vl1, .string nm1, .slice p1 ts1.length c1]) rfl (by kernel_rfl) (by kernel_rfl) (by kernel_rfl) (fun _ _ _ h => h) (Or.inl ⟨by kernel_rfl, fun w hSw => by (obtain ⟨hS0, hS1, hS2, hS3, hS4, hS5, hS6, hS7, hS8, hS9, hS10, hS11, hS12, hS13, hS14⟩ := HC.out _ hSw; go_simp)⟩) hHeld ?_
    try simp only [Act.put, List.setIfInBounds_toArray, List.set_cons_zero, List.set_cons_succ]
    refine wpAnyH_take (i := 3) (v := .agg #[.int .i64 op2, .int .i64 wd2, .int .u64 vl2, .string nm2, .slice p2 ts2.length c2]) rfl (by kernel_rfl) (by kernel_rfl) (by kernel_rfl) (fun _ _ _ h => h) (Or.inl ⟨by kernel_rfl, fun w hSw => by (obtain ⟨hS0, hS1, hS2, hS3, hS4, hS5, hS6, hS7, hS8, hS9, hS10, hS11, hS12, hS13, hS14⟩ := HC.out _ hSw; go_simp)⟩) hHeld ?_
    try simp only [Act.put, List.setIfInBounds_toArray, List.set_cons_zero, List.set_cons_succ]
    refine wpAnyH_take (i := 5) (v := .agg #[.int .i64 op3, .int .i64 wd3, .int .u64 vl3, .string nm3, .slice p3 ts3.length c3]) rfl (by kernel_rfl) (by kernel_rfl) (by kernel_rfl) (fun _ _ _ h => h) (Or.inl ⟨by kernel_rfl, fun w hSw => by (obtain ⟨hS0, hS1, hS2, hS3, hS4, hS5, hS6, hS7, hS8, hS9, hS10, hS11, hS12, hS13, hS14⟩ := HC.out _ hSw; go_simp)⟩) hHeld ?_
    try simp only [Act.put, List.setIfInBounds_toArray, List.set_cons_zero, List.set_cons_succ]
    refine wpAnyH_ready (rs := [6, 7, 8]) (by kernel_rfl) (by simp) ?_
    refine AllReadyH.cons (o := _) rfl (fun K hK => ?_) (AllReadyH.cons (o := _) rfl (fun K hK => ?_) (AllReadyH.cons (o := _) rfl (fun K hK => ?_) AllReadyH.nil))
    · go_simp
      refine hK.out _ _ (by first | exact hkI | (repeat (first | exact hkI | refine bk_alloc ?_ _ | refine bk_set ?_ _ _ ?_))) (fun hHeld => ?_)
      clear hK K
      try simp only [Act.put, List.setIfInBounds_toArray, List.set_cons_zero, List.set_cons_succ]
      refine wpAnyH_ready (rs := [7, 8]) (by kernel_rfl) (by simp) ?_
      refine AllReadyH.cons (o := _) rfl (fun K hK => ?_) (AllReadyH.cons (o := _) rfl (fun K hK => ?_) AllReadyH.nil)
      · go_simp
        refine hK.out _ _ (by first | exact hkI | (repeat (first | exact hkI | refine bk_alloc ?_ _ | refine bk_set ?_ _ _ ?_))) (fun hHeld => ?_)
        clear hK K
        try simp only [Act.put, List.setIfInBounds_toArray, List.set_cons_zero, List.set_cons_succ]
        refine wpAnyH_ready (rs := [8]) (by kernel_rfl) (by simp) ?_
        refine AllReadyH.cons (o := _) rfl (fun K hK => ?_) AllReadyH.nil
        go_simp
        refine hK.out _ _ (by first | exact hkI | (repeat (first | exact hkI | refine bk_alloc ?_ _ | refine bk_set ?_ _ _ ?_))) (fun hHeld => ?_)
        clear hK K
        try simp only [Act.put, List.setIfInBounds_toArray, List.set_cons_zero, List.set_cons_succ]
        refine wpAnyH_ready (rs := [9]) (by kernel_rfl) (by simp) ?_
        refine AllReadyH.cons (o := _) rfl (fun K hK => ?_) AllReadyH.nil
        go_simp
        refine hK.out _ _ (by first | exact hkI | (repeat (first | exact hkI | refine bk_alloc ?_ _ | refine bk_set ?_ _ _ ?_))) (fun hHeld => ?_)
        clear hK K
        try simp only [Act.put, List.setIfInBounds_toArray, List.set_cons_zero, List.set_cons_succ]
        refine wpAnyH_ready (rs := [10]) (by kernel_rfl) (by simp) ?_
        refine AllReadyH.cons (o := _) rfl (fun K hK => ?_) AllReadyH.nil
        go_simp
        refine hK.out _ _ (by first | exact hkI | (repeat (first | exact hkI | refine bk_alloc ?_ _ | refine bk_set ?_ _ _ ?_))) (fun hHeld => ?_)
        clear hK K
        try simp only [Act.put, List.setIfInBounds_toArray, List.set_cons_zero, List.set_cons_succ]
        refine wpAnyH_ready (rs := [11]) (by kernel_rfl) (by simp) ?_
        refine AllReadyH.cons (o := _) rfl (fun K hK => ?_) AllReadyH.nil
        go_simp
        refine hK.out _ _ (by first | exact hkI | (repeat (first | exact hkI | refine bk_alloc ?_ _ | refine bk_set ?_ _ _ ?_))) (fun hHeld => ?_)
        clear hK K
        try simp only [Act.put, List.setIfInBounds_toArray, List.set_cons_zero, List.set_cons_succ]
        refine wpAnyH_done (by kernel_rfl) ?_ _
        have HF3 := Lib.hid (fresh3 wI #[.int .i64 op1, .int .i64 wd1, .int .u64 vl1, .string nm1, .slice p1 ts1.length c1] #[.int .i64 op2, .int .i64 wd2, .int .u64 vl2, .string nm2, .slice p2 ts2.length c2] #[.int .i64 op3, .int .i64 wd3, .int .u64 vl3, .string nm3, .slice p3 ts3.length c3])
        have HKI := Lib.hid hkI
        clear hkI
        go_wp2_with fail
        go_meet
        case rel => exact ⟨_, _, _, rfl, rfl, rfl, b5_heap (HF3.out.1), b5_heap (HF3.out.2.1), b5_heap (HF3.out.2.2.1), bk_tr HKI.out HF3.out.2.2.2⟩
      · go_simp
        refine hK.out _ _ (by first | exact hkI | (repeat (first | exact hkI | refine bk_alloc ?_ _ | refine bk_set ?_ _ _ ?_))) (fun hHeld => ?_)
        clear hK K
        try simp only [Act.put, List.setIfInBounds_toArray, List.set_cons_zero, List.set_cons_succ]
        refine wpAnyH_ready (rs := [7]) (by kernel_rfl) (by simp) ?_
        refine AllReadyH.cons (o := _) rfl (fun K hK => ?_) AllReadyH.nil
        go_simp
        refine hK.out _ _ (by first | exact hkI | (repeat (first | exact hkI | refine bk_alloc ?_ _ | refine bk_set ?_ _ _ ?_))) (fun hHeld => ?_)
        clear hK K
        try simp only [Act.put, List.setIfInBounds_toArray, List.set_cons_zero, List.set_cons_succ]
        refine wpAnyH_ready (rs := [9]) (by kernel_rfl) (by simp) ?_
        refine AllReadyH.cons (o := _) rfl (fun K hK => ?_) AllReadyH.nil
        go_simp
        refine hK.out _ _ (by first | exact hkI | (repeat (first | exact hkI | refine bk_alloc ?_ _ | refine bk_set ?_ _ _ ?_))) (fun hHeld => ?_)
        clear hK K
        try simp only [Act.put, List.setIfInBounds_toArray, List.set_cons_zero, List.set_cons_succ]
        refine wpAnyH_ready (rs := [10]) (by kernel_rfl) (by simp) ?_
        refine AllReadyH.cons (o := _) rfl (fun K hK => ?_) AllReadyH.nil
        go_simp
        refine hK.out _ _ (by first | exact hkI | (repeat (first | exact hkI | refine bk_alloc ?_ _ | refine bk_set ?_ _ _ ?_))) (fun hHeld => ?_)
        clear hK K
        try simp only [Act.put, List.setIfInBounds_toArray, List.set_cons_zero, List.set_cons_succ]
        refine wpAnyH_ready (rs := [11]) (by kernel_rfl) (by simp) ?_
        refine AllReadyH.cons (o := _) rfl (fun K hK => ?_) AllReadyH.nil
        go_simp
        refine hK.out _ _ (by first | exact hkI | (repeat (first | exact hkI | refine bk_alloc ?_ _ | refine bk_set ?_ _ _ ?_))) (fun hHeld => ?_)
        clear hK K
        try simp only [Act.put, List.setIfInBounds_toArray, List.set_cons_zero, List.set_cons_succ]
        refine wpAnyH_done (by kernel_rfl) ?_ _
        have HF3 := Lib.hid (fresh3 wI #[.int .i64 op1, .int .i64 wd1, .int .u64 vl1, .string nm1, .slice p1 ts1.length c1] #[.int .i64 op3, .int .i64 wd3, .int .u64 vl3, .string nm3, .slice p3 ts3.length c3] #[.int .i64 op2, .int .i64 wd2, .int .u64 vl2, .string nm2, .slice p2 ts2.length c2])
        have HKI := Lib.hid hkI
        clear hkI
        go_wp2_with fail
        go_meet
        case rel => exact ⟨_, _, _, rfl, rfl, rfl, b5_heap (HF3.out.1), b5_heap (HF3.out.2.2.1), b5_heap (HF3.out.2.1), bk_tr HKI.out HF3.out.2.2.2⟩
    · go_simp
      refine hK.out _ _ (by first | exact hkI | (repeat (first | exact hkI | refine bk_alloc ?_ _ | refine bk_set ?_ _ _ ?_))) (fun hHeld => ?_)
      clear hK K
      try simp only [Act.put, List.setIfInBounds_toArray, List.set_cons_zero, List.set_cons_succ]
      refine wpAnyH_ready (rs := [6, 8]) (by kernel_rfl) (by simp) ?_
      refine AllReadyH.cons (o := _) rfl (fun K hK => ?_) (AllReadyH.cons (o := _) rfl (fun K hK => ?_) AllReadyH.nil)
      · go_simp
        refine hK.out _ _ (by first | exact hkI | (repeat (first | exact hkI | refine bk_alloc ?_ _ | refine bk_set ?_ _ _ ?_))) (fun hHeld => ?_)
        clear hK K
        try simp only [Act.put, List.setIfInBounds_toArray, List.set_cons_zero, List.set_cons_succ]
        refine wpAnyH_ready (rs := [8]) (by kernel_rfl) (by simp) ?_
        refine AllReadyH.cons (o := _) rfl (fun K hK => ?_) AllReadyH.nil
        go_simp
        refine hK.out _ _ (by first | exact hkI | (repeat (first | exact hkI | refine bk_alloc ?_ _ | refine bk_set ?_ _ _ ?_))) (fun hHeld => ?_)
        clear hK K
        try simp only [Act.put, List.setIfInBounds_toArray, List.set_cons_zero, List.set_cons_succ]
        refine wpAnyH_ready (rs := [9]) (by kernel_rfl) (by simp) ?_
        refine AllReadyH.cons (o := _) rfl (fun K hK => ?_) AllReadyH.nil
        go_simp
        refine hK.out _ _ (by first | exact hkI | (repeat (first | exact hkI | refine bk_alloc ?_ _ | refine bk_set ?_ _ _ ?_))) (fun hHeld => ?_)
        clear hK K
        try simp only [Act.put, List.setIfInBounds_toArray, List.set_cons_zero, List.set_cons_succ]
        refine wpAnyH_ready (rs := [10]) (by kernel_rfl) (by simp) ?_
        refine AllReadyH.cons (o := _) rfl (fun K hK => ?_) AllReadyH.nil
        go_simp
        refine hK.out _ _ (by first | exact hkI | (repeat (first | exact hkI | refine bk_alloc ?_ _ | refine bk_set ?_ _ _ ?_))) (fun hHeld => ?_)
        clear hK K
        try simp only [Act.put, List.setIfInBounds_toArray, List.set_cons_zero, List.set_cons_succ]
        refine wpAnyH_ready (rs := [11]) (by kernel_rfl) (by simp) ?_
        refine AllReadyH.cons (o := _) rfl (fun K hK => ?_) AllReadyH.nil
        go_simp
        refine hK.out _ _ (by first | exact hkI | (repeat (first | exact hkI | refine bk_alloc ?_ _ | refine bk_set ?_ _ _ ?_))) (fun hHeld => ?_)
        clear hK K
        try simp only [Act.put, List.setIfInBounds_toArray, List.set_cons_zero, List.set_cons_succ]
        refine wpAnyH_done (by kernel_rfl) ?_ _
        have HF3 := Lib.hid (fresh3 wI #[.int .i64 op2, .int .i64 wd2, .int .u64 vl2, .string nm2, .slice p2 ts2.length c2] #[.int .i64 op1, .int .i64 wd1, .int .u64 vl1, .string nm1, .slice p1 ts1.length c1] #[.int .i64 op3, .int .i64 wd3, .int .u64 vl3, .string nm3, .slice p3 ts3.length c3])
        have HKI := Lib.hid hkI
        clear hkI
        go_wp2_with fail
        go_meet
        case rel => exact ⟨_, _, _, rfl, rfl, rfl, b5_heap (HF3.out.2.1), b5_heap (HF3.out.1), b5_heap (HF3.out.2.2.1), bk_tr HKI.out HF3.out.2.2.2⟩
      · go_simp
        refine hK.out _ _ (by first | exact hkI | (repeat (first | exact hkI | refine bk_alloc ?_ _ | refine bk_set ?_ _ _ ?_))) (fun hHeld => ?_)
        clear hK K
        try simp only [Act.put, List.setIfInBounds_toArray, List.set_cons_zero, List.set_cons_succ]
        refine wpAnyH_ready (rs := [6]) (by kernel_rfl) (by simp) ?_
        refine AllReadyH.cons (o := _) rfl (fun K hK => ?_) AllReadyH.nil
        go_simp
        refine hK.out _ _ (by first | exact hkI | (repeat (first | exact hkI | refine bk_alloc ?_ _ | refine bk_set ?_ _ _ ?_))) (fun hHeld => ?_)
        clear hK K
        try simp only [Act.put, List.setIfInBounds_toArray, List.set_cons_zero, List.set_cons_succ]
        refine wpAnyH_ready (rs := [9]) (by kernel_rfl) (by simp) ?_
        refine AllReadyH.cons (o := _) rfl (fun K hK => ?_) AllReadyH.nil
        go_simp
        refine hK.out _ _ (by first | exact hkI | (repeat (first | exact hkI | refine bk_alloc ?_ _ | refine bk_set ?_ _ _ ?_))) (fun hHeld => ?_)
        clear hK K
        try simp only [Act.put, List.setIfInBounds_toArray, List.set_cons_zero, List.set_cons_succ]
        refine wpAnyH_ready (rs := [10]) (by kernel_rfl) (by simp) ?_
        refine AllReadyH.cons (o := _) rfl (fun K hK => ?_) AllReadyH.nil
        go_simp
        refine hK.out _ _ (by first | exact hkI | (repeat (first | exact hkI | refine bk_alloc ?_ _ | refine bk_set ?_ _ _ ?_))) (fun hHeld => ?_)
        clear hK K
        try simp only [Act.put, List.setIfInBounds_toArray, List.set_cons_zero, List.set_cons_succ]
        refine wpAnyH_ready (rs := [11]) (by kernel_rfl) (by simp) ?_
        refine AllReadyH.cons (o := _) rfl (fun K hK => ?_) AllReadyH.nil
        go_simp
        refine hK.out _ _ (by first | exact hkI | (repeat (first | exact hkI | refine bk_alloc ?_ _ | refine bk_set ?_ _ _ ?_))) (fun hHeld => ?_)
        clear hK K
        try simp only [Act.put, List.setIfInBounds_toArray, List.set_cons_zero, List.set_cons_succ]
        refine wpAnyH_done (by kernel_rfl) ?_ _
        have HF3 := Lib.hid (fresh3 wI #[.int .i64 op2, .int .i64 wd2, .int .u64 vl2, .string nm2, .slice p2 ts2.length c2] #[.int .i64 op3, .int .i64 wd3, .int .u64 vl3, .string nm3, .slice p3 ts3.length c3] #[.int .i64 op1, .int .i64 wd1, .int .u64 vl1, .string nm1, .slice p1 ts1.length c1])
        have HKI := Lib.hid hkI
        clear hkI
        go_wp2_with fail
        go_meet
        case rel => exact ⟨_, _, _, rfl, rfl, rfl, b5_heap (HF3.out.2.2.1), b5_heap (HF3.out.1), b5_heap (HF3.out.2.1), bk_tr HKI.out HF3.out.2.2.2⟩
    · go_simp
      refine hK.out _ _ (by first | exact hkI | (repeat (first | exact hkI | refine bk_alloc ?_ _ | refine bk_set ?_ _ _ ?_))) (fun hHeld => ?_)
      clear hK K
      try simp only [Act.put, List.setIfInBounds_toArray, List.set_cons_zero, List.set_cons_succ]
      refine wpAnyH_ready (rs := [6, 7]) (by kernel_rfl) (by simp) ?_
      refine AllReadyH.cons (o := _) rfl (fun K hK => ?_) (AllReadyH.cons (o := _) rfl (fun K hK => ?_) AllReadyH.nil)
      · go_simp
        refine hK.out _ _ (by first | exact hkI | (repeat (first | exact hkI | refine bk_alloc ?_ _ | refine bk_set ?_ _ _ ?_))) (fun hHeld => ?_)
        clear hK K
        try simp only [Act.put, List.setIfInBounds_toArray, List.set_cons_zero, List.set_cons_succ]
        refine wpAnyH_ready (rs := [7]) (by kernel_rfl) (by simp) ?_
        refine AllReadyH.cons (o := _) rfl (fun K hK => ?_) AllReadyH.nil
        go_simp
        refine hK.out _ _ (by first | exact hkI | (repeat (first | exact hkI | refine bk_alloc ?_ _ | refine bk_set ?_ _ _ ?_))) (fun hHeld => ?_)
        clear hK K
        try simp only [Act.put, List.setIfInBounds_toArray, List.set_cons_zero, List.set_cons_succ]
        refine wpAnyH_ready (rs := [9]) (by kernel_rfl) (by simp) ?_
        refine AllReadyH.cons (o := _) rfl (fun K hK => ?_) AllReadyH.nil
        go_simp
        refine hK.out _ _ (by first | exact hkI | (repeat (first | exact hkI | refine bk_alloc ?_ _ | refine bk_set ?_ _ _ ?_))) (fun hHeld => ?_)
        clear hK K
        try simp only [Act.put, List.setIfInBounds_toArray, List.set_cons_zero, List.set_cons_succ]
        refine wpAnyH_ready (rs := [10]) (by kernel_rfl) (by simp) ?_
        refine AllReadyH.cons (o := _) rfl (fun K hK => ?_) AllReadyH.nil
        go_simp
        refine hK.out _ _ (by first | exact hkI | (repeat (first | exact hkI | refine bk_alloc ?_ _ | refine bk_set ?_ _ _ ?_))) (fun hHeld => ?_)
        clear hK K
        try simp only [Act.put, List.setIfInBounds_toArray, List.set_cons_zero, List.set_cons_succ]
        refine wpAnyH_ready (rs := [11]) (by kernel_rfl) (by simp) ?_
        refine AllReadyH.cons (o := _) rfl (fun K hK => ?_) AllReadyH.nil
        go_simp
        refine hK.out _ _ (by first | exact hkI | (repeat (first | exact hkI | refine bk_alloc ?_ _ | refine bk_set ?_ _ _ ?_))) (fun hHeld => ?_)
        clear hK K
        try simp only [Act.put, List.setIfInBounds_toArray, List.set_cons_zero, List.set_cons_succ]
        refine wpAnyH_done (by kernel_rfl) ?_ _
        have HF3 := Lib.hid (fresh3 wI #[.int .i64 op3, .int .i64 wd3, .int .u64 vl3, .string nm3, .slice p3 ts3.length c3] #[.int .i64 op1, .int .i64 wd1, .int .u64 vl1, .string nm1, .slice p1 ts1.length c1] #[.int .i64 op2, .int .i64 wd2, .int .u64 vl2, .string nm2, .slice p2 ts2.length c2])
        have HKI := Lib.hid hkI
        clear hkI
        go_wp2_with fail
        go_meet
        case rel => exact ⟨_, _, _, rfl, rfl, rfl, b5_heap (HF3.out.2.1), b5_heap (HF3.out.2.2.1), b5_heap (HF3.out.1), bk_tr HKI.out HF3.out.2.2.2⟩
      · go_simp
        refine hK.out _ _ (by first | exact hkI | (repeat (first | exact hkI | refine bk_alloc ?_ _ | refine bk_set ?_ _ _ ?_))) (fun hHeld => ?_)
        clear hK K
        try simp only [Act.put, List.setIfInBounds_toArray, List.set_cons_zero, List.set_cons_succ]
        refine wpAnyH_ready (rs := [6]) (by kernel_rfl) (by simp) ?_
        refine AllReadyH.cons (o := _) rfl (fun K hK => ?_) AllReadyH.nil
        go_simp
        refine hK.out _ _ (by first | exact hkI | (repeat (first | exact hkI | refine bk_alloc ?_ _ | refine bk_set ?_ _ _ ?_))) (fun hHeld => ?_)
        clear hK K
        try simp only [Act.put, List.setIfInBounds_toArray, List.set_cons_zero, List.set_cons_succ]
        refine wpAnyH_ready (rs := [9]) (by kernel_rfl) (by simp) ?_
        refine AllReadyH.cons (o := _) rfl (fun K hK => ?_) AllReadyH.nil
        go_simp
        refine hK.out _ _ (by first | exact hkI | (repeat (first | exact hkI | refine bk_alloc ?_ _ | refine bk_set ?_ _ _ ?_))) (fun hHeld => ?_)
        clear hK K
        try simp only [Act.put, List.setIfInBounds_toArray, List.set_cons_zero, List.set_cons_succ]
        refine wpAnyH_ready (rs := [10]) (by kernel_rfl) (by simp) ?_
        refine AllReadyH.cons (o := _) rfl (fun K hK => ?_) AllReadyH.nil
        go_simp
        refine hK.out _ _ (by first | exact hkI | (repeat (first | exact hkI | refine bk_alloc ?_ _ | refine bk_set ?_ _ _ ?_))) (fun hHeld => ?_)
        clear hK K
        try simp only [Act.put, List.setIfInBounds_toArray, List.set_cons_zero, List.set_cons_succ]
        refine wpAnyH_ready (rs := [11]) (by kernel_rfl) (by simp) ?_
        refine AllReadyH.cons (o := _) rfl (fun K hK => ?_) AllReadyH.nil
        go_simp
        refine hK.out _ _ (by first | exact hkI | (repeat (first | exact hkI | refine bk_alloc ?_ _ | refine bk_set ?_ _ _ ?_))) (fun hHeld => ?_)
        clear hK K
        try simp only [Act.put, List.setIfInBounds_toArray, List.set_cons_zero, List.set_cons_succ]
        refine wpAnyH_done (by kernel_rfl) ?_ _
        have HF3 := Lib.hid (fresh3 wI #[.int .i64 op3, .int .i64 wd3, .int .u64 vl3, .string nm3, .slice p3 ts3.length c3] #[.int .i64 op2, .int .i64 wd2, .int .u64 vl2, .string nm2, .slice p2 ts2.length c2] #[.int .i64 op1, .int .i64 wd1, .int .u64 vl1, .string nm1, .slice p1 ts1.length c1])
        have HKI := Lib.hid hkI
        clear hkI
        go_wp2_with fail
        go_meet
        case rel => exact ⟨_, _, _, rfl, rfl, rfl, b5_heap (HF3.out.2.2.1), b5_heap (HF3.out.2.1), b5_heap (HF3.out.1), bk_tr HKI.out HF3.out.2.2.2⟩
  case rest =>
    obtain ⟨a5, b5', d5, rfl, rfl, rfl, ha, hb, hd, hbk⟩ := hcut
    have la := World.block_lt_of_cell? wc _ ha.1
    have lb := World.block_lt_of_cell? wc _ hb.1
    have ld := World.block_lt_of_cell? wc _ hd.1
    have HXa := Lib.hid (fun w' (h : BK wc w') => ha.keep h la)
    have HXb := Lib.hid (fun w' (h : BK wc w') => hb.keep h lb)
    have HXd := Lib.hid (fun w' (h : BK wc w') => hd.keep h ld)
    have HROWc := Lib.hid (fun w' (h : BK wc w') => HROW.out w' (bk_tr hbk h))
    have HKc := Lib.hid (bk_tr HK0.out hbk)
    clear HROW HBL HK0 HC ha hb hd la lb ld hbk
    have HQ1 := Lib.hid (fun w' (h : BK wc w') => HR1.out w' (bk_tr HKc.out h))
    have HQ2 := Lib.hid (fun w' (h : BK wc w') => HR2.out w' (bk_tr HKc.out h))
    have HQ3 := Lib.hid (fun w' (h : BK wc w') => HR3.out w' (bk_tr HKc.out h))
    have HTc := Lib.hid (fun w' (h : BK wc w') => HTB.out w' (bk_tr HKc.out h))
    have HT14 := Lib.hid (fun w' (h : BK wc w') => lives14 w' (HTc.out _ h))
    clear HR1 HR2 HR3 HTB
    obtain ⟨b1, hb1⟩ : ∃ b, smallB (T.mk op1 wd1 vl1 nm1 ts1) 40 = b := ⟨_, rfl⟩
    have hS1 := fun w' (h : BK wc w') => small15 op1 wd1 vl1 nm1 ts1 40 w' p1 c1 (HQ1.out _ h) (by omega) (by omega)
    rw [hb1] at hS1
    have HS1 := Lib.hid hS1
    have HB1 := Lib.hid hb1
    clear hS1 hb1
    obtain ⟨b2, hb2⟩ : ∃ b, smallB (T.mk op2 wd2 vl2 nm2 ts2) 40 = b := ⟨_, rfl⟩
    have hS2 := fun w' (h : BK wc w') => small15 op2 wd2 vl2 nm2 ts2 40 w' p2 c2 (HQ2.out _ h) (by omega) (by omega)
    rw [hb2] at hS2
    have HS2 := Lib.hid hS2
    have HB2 := Lib.hid hb2
    clear hS2 hb2
    obtain ⟨b3, hb3⟩ : ∃ b, smallB (T.mk op3 wd3 vl3 nm3 ts3) 40 = b := ⟨_, rfl⟩
    have hS3 := fun w' (h : BK wc w') => small15 op3 wd3 vl3 nm3 ts3 40 w' p3 c3 (HQ3.out _ h) (by omega) (by omega)
    rw [hb3] at hS3
    have HS3 := Lib.hid hS3
    have HB3 := Lib.hid hb3
    clear hS3 hb3
    obtain ⟨x0, x1, x2, x3, x4⟩ := HXa.out _ (BK.refl _)
    go_wp2_with fail
    refine (HS1.out _ (BK.refl _)).mono ?_
    rintro e w1 ⟨rfl, hb⟩
    have K1 := Lib.hid hb
    clear hb x0 x1 x2 x3 x4
    cases b1 with
    | false =>
      go_wp2_with fail
      refine (HT14.out _ K1.out).mono ?_
      rintro e w9 ⟨rfl, hb9⟩
      have H9 := Lib.hid (bk_tr K1.out hb9)
      clear hb9
      go_wp2_with fail
      go_ret
      exact ⟨rfl, bk_tr HKc.out H9.out⟩
    | true =>
      obtain ⟨x0, x1, x2, x3, x4⟩ := HXb.out _ K1.out
      go_wp2_with fail
      refine (HS2.out _ K1.out).mono ?_
      rintro e w2 ⟨rfl, hb⟩
      have K2 := Lib.hid (bk_tr K1.out hb)
      clear hb x0 x1 x2 x3 x4
      cases b2 with
      | false =>
        go_wp2_with fail
        refine (HT14.out _ K2.out).mono ?_
        rintro e w9 ⟨rfl, hb9⟩
        have H9 := Lib.hid (bk_tr K2.out hb9)
        clear hb9
        go_wp2_with fail
        go_ret
        exact ⟨rfl, bk_tr HKc.out H9.out⟩
      | true =>
        obtain ⟨x0, x1, x2, x3, x4⟩ := HXd.out _ K2.out
        go_wp2_with fail
        refine (HS3.out _ K2.out).mono ?_
        rintro e w3 ⟨rfl, hb⟩
        have K3 := Lib.hid (bk_tr K2.out hb)
        clear hb x0 x1 x2 x3 x4
        cases b3 with
        | false =>
          go_wp2_with fail
          refine (HT14.out _ K3.out).mono ?_
          rintro e w9 ⟨rfl, hb9⟩
          have H9 := Lib.hid (bk_tr K3.out hb9)
          clear hb9
          go_wp2_with fail
          go_ret
          exact ⟨rfl, bk_tr HKc.out H9.out⟩
        | true =>
          obtain ⟨s, r, hd0, hd1, he1, hd3, he3⟩ := dags_calls cs hcs (T.mk op1 wd1 vl1 nm1 ts1) (T.mk op2 wd2 vl2 nm2 ts2) (T.mk op3 wd3 vl3 nm3 ts3) HB1.out HB2.out HB3.out
          have D0 := Lib.hid hd0
          have D1 := Lib.hid hd1
          have E1 := Lib.hid he1
          have D3 := Lib.hid hd3
          have E3 := Lib.hid he3
          clear hd0 hd1 he1 hd3 he3 HS1 HS2 HS3 HB1 HB2 HB3
          have hu23 := Tryd.underlying23
          have hi23 : (Tryd.prog.info? 23).map (·.size) = some (cs.map (Value.int .i64)).length := by rw [List.length_map, hcs]; kernel_rfl
          unfold DagC ca at D0 D1 D3
          unfold RefC ca at E1 E3
          go_wp2_with fail
          have hk0 := bk_drew K3.out
          refine wp_region_held_drew (S := fun w' => w'.rangeAt w.heap.size 0 (cs.map (Value.int .i64)) ∧ w'.cell? ⟨a5, 0, none⟩ = some (.int .i64 op1) ∧ w'.cell? ⟨a5, 1, none⟩ = some (.int .i64 wd1) ∧ w'.cell? ⟨a5, 2, none⟩ = some (.int .u64 vl1) ∧ w'.cell? ⟨a5, 3, none⟩ = some (.string nm1) ∧ w'.cell? ⟨a5, 4, none⟩ = some (.slice p1 ts1.length c1) ∧ w'.cell? ⟨b5', 0, none⟩ = some (.int .i64 op2) ∧ w'.cell? ⟨b5', 1, none⟩ = some (.int .i64 wd2) ∧ w'.cell? ⟨b5', 2, none⟩ = some (.int .u64 vl2) ∧ w'.cell? ⟨b5', 3, none⟩ = some (.string nm2) ∧ w'.cell? ⟨b5', 4, none⟩ = some (.slice p2 ts2.length c2) ∧ w'.cell? ⟨d5, 0, none⟩ = some (.int .i64 op3) ∧ w'.cell? ⟨d5, 1, none⟩ = some (.int .i64 wd3) ∧ w'.cell? ⟨d5, 2, none⟩ = some (.int .u64 vl3) ∧ w'.cell? ⟨d5, 3, none⟩ = some (.string nm3) ∧ w'.cell? ⟨d5, 4, none⟩ = some (.slice p3 ts3.length c3)) (by kernel_rfl) (sixteen (HROWc.out _ (hk0)) (HXa.out _ (hk0)) (HXb.out _ (hk0)) (HXd.out _ (hk0))) (fun hHeld => ?_)
          generalize w3.drew = wI at hHeld hk0 ⊢
          refine' wpAnyH_take (i := 0) (v := _) rfl (by kernel_rfl) (by kernel_rfl) (by kernel_rfl) (fun _ _ _ h => h) (yieldsIf_load_mid (by kernel_rfl) _ _ rfl _ _ rfl _ _ (fun w hSw => hSw.1) hu23 rfl hi23) hHeld ?_
          try simp only [Act.put, List.setIfInBounds_toArray, List.set_cons_zero, List.set_cons_succ]
          refine wpAnyH_ready (rs := [1]) (by kernel_rfl) (by simp) ?_
          refine AllReadyH.cons (o := _) rfl (fun K hK => ?_) AllReadyH.nil
          go_simp
          go_at_call 18; with_reducible refine (D0.out _ _ _ (row_nil _) (HTc.out _ hk0)).mono ?_; rintro e w6 ⟨rfl, hq⟩; have hk1 := bk_tr hk0 hq
          refine hK.out _ _ (sixteen (HROWc.out _ (hk1)) (HXa.out _ (hk1)) (HXb.out _ (hk1)) (HXd.out _ (hk1))) (fun hHeld => ?_)
          clear hK K
          try simp only [Act.put, List.setIfInBounds_toArray, List.set_cons_zero, List.set_cons_succ]
          refine wpAnyH_take (i := 2) (v := .bool true) rfl (by kernel_rfl) (by kernel_rfl) (by kernel_rfl) (fun _ _ _ h => h) (Or.inl ⟨by kernel_rfl, fun w hSw => by (go_simp)⟩) hHeld ?_
          try simp only [Act.put, List.setIfInBounds_toArray, List.set_cons_zero, List.set_cons_succ]
          refine wpAnyH_take (i := 3) (v := .bool true) rfl (by kernel_rfl) (by kernel_rfl) (by kernel_rfl) (fun _ _ _ h => h) (Or.inl ⟨by kernel_rfl, fun w hSw => by (go_simp)⟩) hHeld ?_
          try simp only [Act.put, List.setIfInBounds_toArray, List.set_cons_zero, List.set_cons_succ]
          refine' wpAnyH_take (i := 4) (v := _) rfl (by kernel_rfl) (by kernel_rfl) (by kernel_rfl) (fun _ _ _ h => h) (yieldsIf_load_mid (by kernel_rfl) _ _ rfl _ _ rfl _ _ (fun w hSw => hSw.1) hu23 rfl hi23) hHeld ?_
          try simp only [Act.put, List.setIfInBounds_toArray, List.set_cons_zero, List.set_cons_succ]
          refine wpAnyH_take (i := 5) (v := .agg #[.int .i64 op1, .int .i64 wd1, .int .u64 vl1, .string nm1, .slice p1 ts1.length c1]) rfl (by kernel_rfl) (by kernel_rfl) (by kernel_rfl) (fun _ _ _ h => h) (Or.inl ⟨by kernel_rfl, fun w hSw => by (obtain ⟨hS0, hS1, hS2, hS3, hS4, hS5, hS6, hS7, hS8, hS9, hS10, hS11, hS12, hS13, hS14, hS15⟩ := hSw; go_simp)⟩) hHeld ?_
          try simp only [Act.put, List.setIfInBounds_toArray, List.set_cons_zero, List.set_cons_succ]
          refine' wpAnyH_take (i := 8) (v := _) rfl (by kernel_rfl) (by kernel_rfl) (by kernel_rfl) (fun _ _ _ h => h) (yieldsIf_load_mid (by kernel_rfl) _ _ rfl _ _ rfl _ _ (fun w hSw => hSw.1) hu23 rfl hi23) hHeld ?_
          try simp only [Act.put, List.setIfInBounds_toArray, List.set_cons_zero, List.set_cons_succ]
          refine wpAnyH_take (i := 9) (v := .agg #[.int .i64 op1, .int .i64 wd1, .int .u64 vl1, .string nm1, .slice p1 ts1.length c1]) rfl (by kernel_rfl) (by kernel_rfl) (by kernel_rfl) (fun _ _ _ h => h) (Or.inl ⟨by kernel_rfl, fun w hSw => by (obtain ⟨hS0, hS1, hS2, hS3, hS4, hS5, hS6, hS7, hS8, hS9, hS10, hS11, hS12, hS13, hS14, hS15⟩ := hSw; go_simp)⟩) hHeld ?_
          try simp only [Act.put, List.setIfInBounds_toArray, List.set_cons_zero, List.set_cons_succ]
          refine wpAnyH_ready (rs := [6, 10]) (by kernel_rfl) (by simp) ?_
          refine AllReadyH.cons (o := _) rfl (fun K hK => ?_) (AllReadyH.cons (o := _) rfl (fun K hK => ?_) AllReadyH.nil)
          · go_simp
            refine hK.out _ _ (sixteen (HROWc.out _ (bk_alloc hk1 _)) (HXa.out _ (bk_alloc hk1 _)) (HXb.out _ (bk_alloc hk1 _)) (HXd.out _ (bk_alloc hk1 _))) (fun hHeld => ?_)
            clear hK K
            try simp only [Act.put, List.setIfInBounds_toArray, List.set_cons_zero, List.set_cons_succ]
            refine wpAnyH_ready (rs := [7, 10]) (by kernel_rfl) (by simp) ?_
            refine AllReadyH.cons (o := _) rfl (fun K hK => ?_) (AllReadyH.cons (o := _) rfl (fun K hK => ?_) AllReadyH.nil)
            · go_simp
              go_at_call 18; with_reducible refine (D1.out _ _ _ (row1 (HQ1.out _ hk1) HF.out.1) (HTc.out _ (bk_alloc hk1 _))).mono ?_; rintro e w6 ⟨rfl, hq⟩; have hkA1 := bk_tr (bk_alloc hk1 _) hq
              refine hK.out _ _ (sixteen (HROWc.out _ (hkA1)) (HXa.out _ (hkA1)) (HXb.out _ (hkA1)) (HXd.out _ (hkA1))) (fun hHeld => ?_)
              clear hK K
              try simp only [Act.put, List.setIfInBounds_toArray, List.set_cons_zero, List.set_cons_succ]
              refine wpAnyH_ready (rs := [10]) (by kernel_rfl) (by simp) ?_
              refine AllReadyH.cons (o := _) rfl (fun K hK => ?_) AllReadyH.nil
              go_simp
              refine hK.out _ _ (sixteen (HROWc.out _ (bk_alloc hkA1 _)) (HXa.out _ (bk_alloc hkA1 _)) (HXb.out _ (bk_alloc hkA1 _)) (HXd.out _ (bk_alloc hkA1 _))) (fun hHeld => ?_)
              clear hK K
              try simp only [Act.put, List.setIfInBounds_toArray, List.set_cons_zero, List.set_cons_succ]
              refine wpAnyH_ready (rs := [11]) (by kernel_rfl) (by simp) ?_
              refine AllReadyH.cons (o := _) rfl (fun K hK => ?_) AllReadyH.nil
              go_simp
              go_at_call 19; with_reducible refine (E1.out _ _ _ (row1 (HQ1.out _ hkA1) HF.out.1)).mono ?_; rintro e w6 ⟨rfl, hq⟩; have hkB1 := bk_tr (bk_alloc hkA1 _) hq
              refine hK.out _ _ (sixteen (HROWc.out _ (hkB1)) (HXa.out _ (hkB1)) (HXb.out _ (hkB1)) (HXd.out _ (hkB1))) (fun hHeld => ?_)
              clear hK K
              try simp only [Act.put, List.setIfInBounds_toArray, List.set_cons_zero, List.set_cons_succ]
              refine wpAnyH_take (i := 12) (v := .bool true) rfl (by kernel_rfl) (by kernel_rfl) (by kernel_rfl) (fun _ _ _ h => h) (Or.inl ⟨by kernel_rfl, fun w hSw => by (go_simp)⟩) hHeld ?_
              try simp only [Act.put, List.setIfInBounds_toArray, List.set_cons_zero, List.set_cons_succ]
              refine wpAnyH_take (i := 13) (v := .bool true) rfl (by kernel_rfl) (by kernel_rfl) (by kernel_rfl) (fun _ _ _ h => h) (Or.inl ⟨by kernel_rfl, fun w hSw => by (go_simp)⟩) hHeld ?_
              try simp only [Act.put, List.setIfInBounds_toArray, List.set_cons_zero, List.set_cons_succ]
              refine wpAnyH_take (i := 14) (v := .bool true) rfl (by kernel_rfl) (by kernel_rfl) (by kernel_rfl) (fun _ _ _ h => h) (Or.inl ⟨by kernel_rfl, fun w hSw => by (go_simp)⟩) hHeld ?_
              try simp only [Act.put, List.setIfInBounds_toArray, List.set_cons_zero, List.set_cons_succ]
              refine' wpAnyH_take (i := 15) (v := _) rfl (by kernel_rfl) (by kernel_rfl) (by kernel_rfl) (fun _ _ _ h => h) (yieldsIf_load_mid (by kernel_rfl) _ _ rfl _ _ rfl _ _ (fun w hSw => hSw.1) hu23 rfl hi23) hHeld ?_
              try simp only [Act.put, List.setIfInBounds_toArray, List.set_cons_zero, List.set_cons_succ]
              refine wpAnyH_take (i := 16) (v := .agg #[.int .i64 op1, .int .i64 wd1, .int .u64 vl1, .string nm1, .slice p1 ts1.length c1]) rfl (by kernel_rfl) (by kernel_rfl) (by kernel_rfl) (fun _ _ _ h => h) (Or.inl ⟨by kernel_rfl, fun w hSw => by (obtain ⟨hS0, hS1, hS2, hS3, hS4, hS5, hS6, hS7, hS8, hS9, hS10, hS11, hS12, hS13, hS14, hS15⟩ := hSw; go_simp)⟩) hHeld ?_
              try simp only [Act.put, List.setIfInBounds_toArray, List.set_cons_zero, List.set_cons_succ]
              refine wpAnyH_take (i := 17) (v := .agg #[.int .i64 op2, .int .i64 wd2, .int .u64 vl2, .string nm2, .slice p2 ts2.length c2]) rfl (by kernel_rfl) (by kernel_rfl) (by kernel_rfl) (fun _ _ _ h => h) (Or.inl ⟨by kernel_rfl, fun w hSw => by (obtain ⟨hS0, hS1, hS2, hS3, hS4, hS5, hS6, hS7, hS8, hS9, hS10, hS11, hS12, hS13, hS14, hS15⟩ := hSw; go_simp)⟩) hHeld ?_
              try simp only [Act.put, List.setIfInBounds_toArray, List.set_cons_zero, List.set_cons_succ]
              refine wpAnyH_take (i := 18) (v := .agg #[.int .i64 op3, .int .i64 wd3, .int .u64 vl3, .string nm3, .slice p3 ts3.length c3]) rfl (by kernel_rfl) (by kernel_rfl) (by kernel_rfl) (fun _ _ _ h => h) (Or.inl ⟨by kernel_rfl, fun w hSw => by (obtain ⟨hS0, hS1, hS2, hS3, hS4, hS5, hS6, hS7, hS8, hS9, hS10, hS11, hS12, hS13, hS14, hS15⟩ := hSw; go_simp)⟩) hHeld ?_
              try simp only [Act.put, List.setIfInBounds_toArray, List.set_cons_zero, List.set_cons_succ]
              refine' wpAnyH_take (i := 21) (v := _) rfl (by kernel_rfl) (by kernel_rfl) (by kernel_rfl) (fun _ _ _ h => h) (yieldsIf_load_mid (by kernel_rfl) _ _ rfl _ _ rfl _ _ (fun w hSw => hSw.1) hu23 rfl hi23) hHeld ?_
              try simp only [Act.put, List.setIfInBounds_toArray, List.set_cons_zero, List.set_cons_succ]
              refine wpAnyH_take (i := 22) (v := .agg #[.int .i64 op1, .int .i64 wd1, .int .u64 vl1, .string nm1, .slice p1 ts1.length c1]) rfl (by kernel_rfl) (by kernel_rfl) (by kernel_rfl) (fun _ _ _ h => h) (Or.inl ⟨by kernel_rfl, fun w hSw => by (obtain ⟨hS0, hS1, hS2, hS3, hS4, hS5, hS6, hS7, hS8, hS9, hS10, hS11, hS12, hS13, hS14, hS15⟩ := hSw; go_simp)⟩) hHeld ?_
              try simp only [Act.put, List.setIfInBounds_toArray, List.set_cons_zero, List.set_cons_succ]
              refine wpAnyH_take (i := 23) (v := .agg #[.int .i64 op2, .int .i64 wd2, .int .u64 vl2, .string nm2, .slice p2 ts2.length c2]) rfl (by kernel_rfl) (by kernel_rfl) (by kernel_rfl) (fun _ _ _ h => h) (Or.inl ⟨by kernel_rfl, fun w hSw => by (obtain ⟨hS0, hS1, hS2, hS3, hS4, hS5, hS6, hS7, hS8, hS9, hS10, hS11, hS12, hS13, hS14, hS15⟩ := hSw; go_simp)⟩) hHeld ?_
              try simp only [Act.put, List.setIfInBounds_toArray, List.set_cons_zero, List.set_cons_succ]
              refine wpAnyH_take (i := 24) (v := .agg #[.int .i64 op3, .int .i64 wd3, .int .u64 vl3, .string nm3, .slice p3 ts3.length c3]) rfl (by kernel_rfl) (by kernel_rfl) (by kernel_rfl) (fun _ _ _ h => h) (Or.inl ⟨by kernel_rfl, fun w hSw => by (obtain ⟨hS0, hS1, hS2, hS3, hS4, hS5, hS6, hS7, hS8, hS9, hS10, hS11, hS12, hS13, hS14, hS15⟩ := hSw; go_simp)⟩) hHeld ?_
              try simp only [Act.put, List.setIfInBounds_toArray, List.set_cons_zero, List.set_cons_succ]
              refine wpAnyH_ready (rs := [19, 25]) (by kernel_rfl) (by simp) ?_
              refine AllReadyH.cons (o := _) rfl (fun K hK => ?_) (AllReadyH.cons (o := _) rfl (fun K hK => ?_) AllReadyH.nil)
              · go_simp
                refine hK.out _ _ (sixteen (HROWc.out _ (bk_alloc hkB1 _)) (HXa.out _ (bk_alloc hkB1 _)) (HXb.out _ (bk_alloc hkB1 _)) (HXd.out _ (bk_alloc hkB1 _))) (fun hHeld => ?_)
                clear hK K
                try simp only [Act.put, List.setIfInBounds_toArray, List.set_cons_zero, List.set_cons_succ]
                refine wpAnyH_ready (rs := [20, 25]) (by kernel_rfl) (by simp) ?_
                refine AllReadyH.cons (o := _) rfl (fun K hK => ?_) (AllReadyH.cons (o := _) rfl (fun K hK => ?_) AllReadyH.nil)
                · go_simp
                  go_at_call 18; with_reducible refine (D3.out _ _ _ (row123 (HQ1.out _ hkB1) HF.out.1 (HQ2.out _ hkB1) HF.out.2.1 (HQ3.out _ hkB1) HF.out.2.2) (HTc.out _ (bk_alloc hkB1 _))).mono ?_; rintro e w6 ⟨rfl, hq⟩; have hkA2 := bk_tr (bk_alloc hkB1 _) hq
                  refine hK.out _ _ (sixteen (HROWc.out _ (hkA2)) (HXa.out _ (hkA2)) (HXb.out _ (hkA2)) (HXd.out _ (hkA2))) (fun hHeld => ?_)
                  clear hK K
                  try simp only [Act.put, List.setIfInBounds_toArray, List.set_cons_zero, List.set_cons_succ]
                  refine wpAnyH_ready (rs := [25]) (by kernel_rfl) (by simp) ?_
                  refine AllReadyH.cons (o := _) rfl (fun K hK => ?_) AllReadyH.nil
                  go_simp
                  refine hK.out _ _ (sixteen (HROWc.out _ (bk_alloc hkA2 _)) (HXa.out _ (bk_alloc hkA2 _)) (HXb.out _ (bk_alloc hkA2 _)) (HXd.out _ (bk_alloc hkA2 _))) (fun hHeld => ?_)
                  clear hK K
                  try simp only [Act.put, List.setIfInBounds_toArray, List.set_cons_zero, List.set_cons_succ]
                  refine wpAnyH_ready (rs := [26]) (by kernel_rfl) (by simp) ?_
                  refine AllReadyH.cons (o := _) rfl (fun K hK => ?_) AllReadyH.nil
                  go_simp
                  go_at_call 19; with_reducible refine (E3.out _ _ _ (row123 (HQ1.out _ hkA2) HF.out.1 (HQ2.out _ hkA2) HF.out.2.1 (HQ3.out _ hkA2) HF.out.2.2)).mono ?_; rintro e w6 ⟨rfl, hq⟩; have hkB2 := bk_tr (bk_alloc hkA2 _) hq
                  refine hK.out _ _ (sixteen (HROWc.out _ (hkB2)) (HXa.out _ (hkB2)) (HXb.out _ (hkB2)) (HXd.out _ (hkB2))) (fun hHeld => ?_)
                  clear hK K
                  try simp only [Act.put, List.setIfInBounds_toArray, List.set_cons_zero, List.set_cons_succ]
                  refine wpAnyH_take (i := 27) (v := .bool true) rfl (by kernel_rfl) (by kernel_rfl) (by kernel_rfl) (fun _ _ _ h => h) (Or.inl ⟨by kernel_rfl, fun w hSw => by (go_simp)⟩) hHeld ?_
                  try simp only [Act.put, List.setIfInBounds_toArray, List.set_cons_zero, List.set_cons_succ]
                  refine wpAnyH_take (i := 28) (v := .bool true) rfl (by kernel_rfl) (by kernel_rfl) (by kernel_rfl) (fun _ _ _ h => h) (Or.inl ⟨by kernel_rfl, fun w hSw => by (go_simp)⟩) hHeld ?_
                  try simp only [Act.put, List.setIfInBounds_toArray, List.set_cons_zero, List.set_cons_succ]
                  refine wpAnyH_take (i := 29) (v := .bool true) rfl (by kernel_rfl) (by kernel_rfl) (by kernel_rfl) (fun _ _ _ h => h) (Or.inl ⟨by kernel_rfl, fun w hSw => by (go_simp)⟩) hHeld ?_
                  try simp only [Act.put, List.setIfInBounds_toArray, List.set_cons_zero, List.set_cons_succ]
                  refine wpAnyH_ready (rs := [30]) (by kernel_rfl) (by simp) ?_
                  refine AllReadyH.cons (o := _) rfl (fun K hK => ?_) AllReadyH.nil
                  go_simp
                  go_at_call 14; refine (HT14.out _ hkB2).mono ?_; rintro e w6 ⟨rfl, hq⟩; have hkF := bk_tr hkB2 hq
                  refine hK.out _ _ (sixteen (HROWc.out _ (hkF)) (HXa.out _ (hkF)) (HXb.out _ (hkF)) (HXd.out _ (hkF))) (fun hHeld => ?_)
                  clear hK K
                  try simp only [Act.put, List.setIfInBounds_toArray, List.set_cons_zero, List.set_cons_succ]
                  refine wpAnyH_ready (rs := [31]) (by kernel_rfl) (by simp) ?_
                  refine AllReadyH.cons (o := _) rfl (fun K hK => ?_) AllReadyH.nil
                  go_simp
                  refine hK.out _ _ (sixteen (HROWc.out _ (hkF)) (HXa.out _ (hkF)) (HXb.out _ (hkF)) (HXd.out _ (hkF))) (fun hHeld => ?_)
                  clear hK K
                  try simp only [Act.put, List.setIfInBounds_toArray, List.set_cons_zero, List.set_cons_succ]
                  refine wpAnyH_ready (rs := [32]) (by kernel_rfl) (by simp) ?_
                  refine AllReadyH.cons (o := _) rfl (fun K hK => ?_) AllReadyH.nil
                  go_simp
                  refine hK.out _ _ (sixteen (HROWc.out _ (hkF)) (HXa.out _ (hkF)) (HXb.out _ (hkF)) (HXd.out _ (hkF))) (fun hHeld => ?_)
                  clear hK K
                  try simp only [Act.put, List.setIfInBounds_toArray, List.set_cons_zero, List.set_cons_succ]
                  refine wpAnyH_done (by kernel_rfl) ?_ _
                  have HE := Lib.hid hkF
                  clear hkF
                  go_wp2_with fail
                  go_ret
                  exact ⟨rfl, bk_tr HKc.out HE.out⟩
                · go_simp
                  refine hK.out _ _ (sixteen (HROWc.out _ (bk_alloc (bk_alloc hkB1 _) _)) (HXa.out _ (bk_alloc (bk_alloc hkB1 _) _)) (HXb.out _ (bk_alloc (bk_alloc hkB1 _) _)) (HXd.out _ (bk_alloc (bk_alloc hkB1 _) _))) (fun hHeld => ?_)
                  clear hK K
                  try simp only [Act.put, List.setIfInBounds_toArray, List.set_cons_zero, List.set_cons_succ]
                  refine wpAnyH_ready (rs := [20]) (by kernel_rfl) (by simp) ?_
                  refine AllReadyH.cons (o := _) rfl (fun K hK => ?_) AllReadyH.nil
                  go_simp
                  go_at_call 18; with_reducible refine (D3.out _ _ _ ((row123 (HQ1.out _ hkB1) HF.out.1 (HQ2.out _ hkB1) HF.out.2.1 (HQ3.out _ hkB1) HF.out.2.2).keep (bk_alloc (BK.refl _) _)) (HTc.out _ (bk_alloc (bk_alloc hkB1 _) _))).mono ?_; rintro e w6 ⟨rfl, hq⟩; have hkA2 := bk_tr (bk_alloc (bk_alloc hkB1 _) _) hq
                  refine hK.out _ _ (sixteen (HROWc.out _ (hkA2)) (HXa.out _ (hkA2)) (HXb.out _ (hkA2)) (HXd.out _ (hkA2))) (fun hHeld => ?_)
                  clear hK K
                  try simp only [Act.put, List.setIfInBounds_toArray, List.set_cons_zero, List.set_cons_succ]
                  refine wpAnyH_ready (rs := [26]) (by kernel_rfl) (by simp) ?_
                  refine AllReadyH.cons (o := _) rfl (fun K hK => ?_) AllReadyH.nil
                  go_simp
                  go_at_call 19; with_reducible refine (E3.out _ _ _ ((row123m (by simp) (HQ1.out _ (bk_alloc hkB1 _)) HF.out.1 (HQ2.out _ (bk_alloc hkB1 _)) HF.out.2.1 (HQ3.out _ (bk_alloc hkB1 _)) HF.out.2.2).keep hq)).mono ?_; rintro e w6 ⟨rfl, hq2⟩; have hkB2 := bk_tr (hkA2) hq2
                  refine hK.out _ _ (sixteen (HROWc.out _ (hkB2)) (HXa.out _ (hkB2)) (HXb.out _ (hkB2)) (HXd.out _ (hkB2))) (fun hHeld => ?_)
                  clear hK K
                  try simp only [Act.put, List.setIfInBounds_toArray, List.set_cons_zero, List.set_cons_succ]
                  refine wpAnyH_take (i := 27) (v := .bool true) rfl (by kernel_rfl) (by kernel_rfl) (by kernel_rfl) (fun _ _ _ h => h) (Or.inl ⟨by kernel_rfl, fun w hSw => by (go_simp)⟩) hHeld ?_
                  try simp only [Act.put, List.setIfInBounds_toArray, List.set_cons_zero, List.set_cons_succ]
                  refine wpAnyH_take (i := 28) (v := .bool true) rfl (by kernel_rfl) (by kernel_rfl) (by kernel_rfl) (fun _ _ _ h => h) (Or.inl ⟨by kernel_rfl, fun w hSw => by (go_simp)⟩) hHeld ?_
                  try simp only [Act.put, List.setIfInBounds_toArray, List.set_cons_zero, List.set_cons_succ]
                  refine wpAnyH_take (i := 29) (v := .bool true) rfl (by kernel_rfl) (by kernel_rfl) (by kernel_rfl) (fun _ _ _ h => h) (Or.inl ⟨by kernel_rfl, fun w hSw => by (go_simp)⟩) hHeld ?_
                  try simp only [Act.put, List.setIfInBounds_toArray, List.set_cons_zero, List.set_cons_succ]
                  refine wpAnyH_ready (rs := [30]) (by kernel_rfl) (by simp) ?_
                  refine AllReadyH.cons (o := _) rfl (fun K hK => ?_) AllReadyH.nil
                  go_simp
                  go_at_call 14; refine (HT14.out _ hkB2).mono ?_; rintro e w6 ⟨rfl, hq⟩; have hkF := bk_tr hkB2 hq
                  refine hK.out _ _ (sixteen (HROWc.out _ (hkF)) (HXa.out _ (hkF)) (HXb.out _ (hkF)) (HXd.out _ (hkF))) (fun hHeld => ?_)
                  clear hK K
                  try simp only [Act.put, List.setIfInBounds_toArray, List.set_cons_zero, List.set_cons_succ]
                  refine wpAnyH_ready (rs := [31]) (by kernel_rfl) (by simp) ?_
                  refine AllReadyH.cons (o := _) rfl (fun K hK => ?_) AllReadyH.nil
                  go_simp
                  refine hK.out _ _ (sixteen (HROWc.out _ (hkF)) (HXa.out _ (hkF)) (HXb.out _ (hkF)) (HXd.out _ (hkF))) (fun hHeld => ?_)
                  clear hK K
                  try simp only [Act.put, List.setIfInBounds_toArray, List.set_cons_zero, List.set_cons_succ]
                  refine wpAnyH_ready (rs := [32]) (by kernel_rfl) (by simp) ?_
                  refine AllReadyH.cons (o := _) rfl (fun K hK => ?_) AllReadyH.nil
                  go_simp
                  refine hK.out _ _ (sixteen (HROWc.out _ (hkF)) (HXa.out _ (hkF)) (HXb.out _ (hkF)) (HXd.out _ (hkF))) (fun hHeld => ?_)
                  clear hK K
                  try simp only [Act.put, List.setIfInBounds_toArray, List.set_cons_zero, List.set_cons_succ]
                  refine wpAnyH_done (by kernel_rfl) ?_ _
                  have HE := Lib.hid hkF
                  clear hkF
                  go_wp2_with fail
                  go_ret
                  exact ⟨rfl, bk_tr HKc.out HE.out⟩
              · go_simp
                refine hK.out _ _ (sixteen (HROWc.out _ (bk_alloc hkB1 _)) (HXa.out _ (bk_alloc hkB1 _)) (HXb.out _ (bk_alloc hkB1 _)) (HXd.out _ (bk_alloc hkB1 _))) (fun hHeld => ?_)
                clear hK K
                try simp only [Act.put, List.setIfInBounds_toArray, List.set_cons_zero, List.set_cons_succ]
                refine wpAnyH_ready (rs := [19]) (by kernel_rfl) (by simp) ?_
                refine AllReadyH.cons (o := _) rfl (fun K hK => ?_) AllReadyH.nil
                go_simp
                refine hK.out _ _ (sixteen (HROWc.out _ (bk_alloc (bk_alloc hkB1 _) _)) (HXa.out _ (bk_alloc (bk_alloc hkB1 _) _)) (HXb.out _ (bk_alloc (bk_alloc hkB1 _) _)) (HXd.out _ (bk_alloc (bk_alloc hkB1 _) _))) (fun hHeld => ?_)
                clear hK K
                try simp only [Act.put, List.setIfInBounds_toArray, List.set_cons_zero, List.set_cons_succ]
                refine wpAnyH_ready (rs := [20]) (by kernel_rfl) (by simp) ?_
                refine AllReadyH.cons (o := _) rfl (fun K hK => ?_) AllReadyH.nil
                go_simp
                go_at_call 18; with_reducible refine (D3.out _ _ _ (row123m (by simp) (HQ1.out _ (bk_alloc hkB1 _)) HF.out.1 (HQ2.out _ (bk_alloc hkB1 _)) HF.out.2.1 (HQ3.out _ (bk_alloc hkB1 _)) HF.out.2.2) (HTc.out _ (bk_alloc (bk_alloc hkB1 _) _))).mono ?_; rintro e w6 ⟨rfl, hq⟩; have hkA2 := bk_tr (bk_alloc (bk_alloc hkB1 _) _) hq
                refine hK.out _ _ (sixteen (HROWc.out _ (hkA2)) (HXa.out _ (hkA2)) (HXb.out _ (hkA2)) (HXd.out _ (hkA2))) (fun hHeld => ?_)
                clear hK K
                try simp only [Act.put, List.setIfInBounds_toArray, List.set_cons_zero, List.set_cons_succ]
                refine wpAnyH_ready (rs := [26]) (by kernel_rfl) (by simp) ?_
                refine AllReadyH.cons (o := _) rfl (fun K hK => ?_) AllReadyH.nil
                go_simp
                go_at_call 19; with_reducible refine (E3.out _ _ _ (((row123 (HQ1.out _ hkB1) HF.out.1 (HQ2.out _ hkB1) HF.out.2.1 (HQ3.out _ hkB1) HF.out.2.2).keep (bk_alloc (BK.refl _) _)).keep hq)).mono ?_; rintro e w6 ⟨rfl, hq2⟩; have hkB2 := bk_tr (hkA2) hq2
                refine hK.out _ _ (sixteen (HROWc.out _ (hkB2)) (HXa.out _ (hkB2)) (HXb.out _ (hkB2)) (HXd.out _ (hkB2))) (fun hHeld => ?_)
                clear hK K
                try simp only [Act.put, List.setIfInBounds_toArray, List.set_cons_zero, List.set_cons_succ]
                refine wpAnyH_take (i := 27) (v := .bool true) rfl (by kernel_rfl) (by kernel_rfl) (by kernel_rfl) (fun _ _ _ h => h) (Or.inl ⟨by kernel_rfl, fun w hSw => by (go_simp)⟩) hHeld ?_
                try simp only [Act.put, List.setIfInBounds_toArray, List.set_cons_zero, List.set_cons_succ]
                refine wpAnyH_take (i := 28) (v := .bool true) rfl (by kernel_rfl) (by kernel_rfl) (by kernel_rfl) (fun _ _ _ h => h) (Or.inl ⟨by kernel_rfl, fun w hSw => by (go_simp)⟩) hHeld ?_
                try simp only [Act.put, List.setIfInBounds_toArray, List.set_cons_zero, List.set_cons_succ]
                refine wpAnyH_take (i := 29) (v := .bool true) rfl (by kernel_rfl) (by kernel_rfl) (by kernel_rfl) (fun _ _ _ h => h) (Or.inl ⟨by kernel_rfl, fun w hSw => by (go_simp)⟩) hHeld ?_
                try simp only [Act.put, List.setIfInBounds_toArray, List.set_cons_zero, List.set_cons_succ]
                refine wpAnyH_ready (rs := [30]) (by kernel_rfl) (by simp) ?_
                refine AllReadyH.cons (o := _) rfl (fun K hK => ?_) AllReadyH.nil
                go_simp
                go_at_call 14; refine (HT14.out _ hkB2).mono ?_; rintro e w6 ⟨rfl, hq⟩; have hkF := bk_tr hkB2 hq
                refine hK.out _ _ (sixteen (HROWc.out _ (hkF)) (HXa.out _ (hkF)) (HXb.out _ (hkF)) (HXd.out _ (hkF))) (fun hHeld => ?_)
                clear hK K
                try simp only [Act.put, List.setIfInBounds_toArray, List.set_cons_zero, List.set_cons_succ]
                refine wpAnyH_ready (rs := [31]) (by kernel_rfl) (by simp) ?_
                refine AllReadyH.cons (o := _) rfl (fun K hK => ?_) AllReadyH.nil
                go_simp
                refine hK.out _ _ (sixteen (HROWc.out _ (hkF)) (HXa.out _ (hkF)) (HXb.out _ (hkF)) (HXd.out _ (hkF))) (fun hHeld => ?_)
                clear hK K
                try simp only [Act.put, List.setIfInBounds_toArray, List.set_cons_zero, List.set_cons_succ]
                refine wpAnyH_ready (rs := [32]) (by kernel_rfl) (by simp) ?_
                refine AllReadyH.cons (o := _) rfl (fun K hK => ?_) AllReadyH.nil
                go_simp
                refine hK.out _ _ (sixteen (HROWc.out _ (hkF)) (HXa.out _ (hkF)) (HXb.out _ (hkF)) (HXd.out _ (hkF))) (fun hHeld => ?_)
                clear hK K
                try simp only [Act.put, List.setIfInBounds_toArray, List.set_cons_zero, List.set_cons_succ]
                refine wpAnyH_done (by kernel_rfl) ?_ _
                have HE := Lib.hid hkF
                clear hkF
                go_wp2_with fail
                go_ret
                exact ⟨rfl, bk_tr HKc.out HE.out⟩
            · go_simp
              refine hK.out _ _ (sixteen (HROWc.out _ (bk_alloc (bk_alloc hk1 _) _)) (HXa.out _ (bk_alloc (bk_alloc hk1 _) _)) (HXb.out _ (bk_alloc (bk_alloc hk1 _) _)) (HXd.out _ (bk_alloc (bk_alloc hk1 _) _))) (fun hHeld => ?_)
              clear hK K
              try simp only [Act.put, List.setIfInBounds_toArray, List.set_cons_zero, List.set_cons_succ]
              refine wpAnyH_ready (rs := [7]) (by kernel_rfl) (by simp) ?_
              refine AllReadyH.cons (o := _) rfl (fun K hK => ?_) AllReadyH.nil
              go_simp
              go_at_call 18; with_reducible refine (D1.out _ _ _ ((row1 (HQ1.out _ hk1) HF.out.1).keep (bk_alloc (BK.refl _) _)) (HTc.out _ (bk_alloc (bk_alloc hk1 _) _))).mono ?_; rintro e w6 ⟨rfl, hq⟩; have hkA1 := bk_tr (bk_alloc (bk_alloc hk1 _) _) hq
              refine hK.out _ _ (sixteen (HROWc.out _ (hkA1)) (HXa.out _ (hkA1)) (HXb.out _ (hkA1)) (HXd.out _ (hkA1))) (fun hHeld => ?_)
              clear hK K
              try simp only [Act.put, List.setIfInBounds_toArray, List.set_cons_zero, List.set_cons_succ]
              refine wpAnyH_ready (rs := [11]) (by kernel_rfl) (by simp) ?_
              refine AllReadyH.cons (o := _) rfl (fun K hK => ?_) AllReadyH.nil
              go_simp
              go_at_call 19; with_reducible refine (E1.out _ _ _ ((row1m (by simp) (HQ1.out _ (bk_alloc hk1 _)) HF.out.1).keep hq)).mono ?_; rintro e w6 ⟨rfl, hq2⟩; have hkB1 := bk_tr (hkA1) hq2
              refine hK.out _ _ (sixteen (HROWc.out _ (hkB1)) (HXa.out _ (hkB1)) (HXb.out _ (hkB1)) (HXd.out _ (hkB1))) (fun hHeld => ?_)
              clear hK K
              try simp only [Act.put, List.setIfInBounds_toArray, List.set_cons_zero, List.set_cons_succ]
              refine wpAnyH_take (i := 12) (v := .bool true) rfl (by kernel_rfl) (by kernel_rfl) (by kernel_rfl) (fun _ _ _ h => h) (Or.inl ⟨by kernel_rfl, fun w hSw => by (go_simp)⟩) hHeld ?_
              try simp only [Act.put, List.setIfInBounds_toArray, List.set_cons_zero, List.set_cons_succ]
              refine wpAnyH_take (i := 13) (v := .bool true) rfl (by kernel_rfl) (by kernel_rfl) (by kernel_rfl) (fun _ _ _ h => h) (Or.inl ⟨by kernel_rfl, fun w hSw => by (go_simp)⟩) hHeld ?_
              try simp only [Act.put, List.setIfInBounds_toArray, List.set_cons_zero, List.set_cons_succ]
              refine wpAnyH_take (i := 14) (v := .bool true) rfl (by kernel_rfl) (by kernel_rfl) (by kernel_rfl) (fun _ _ _ h => h) (Or.inl ⟨by kernel_rfl, fun w hSw => by (go_simp)⟩) hHeld ?_
              try simp only [Act.put, List.setIfInBounds_toArray, List.set_cons_zero, List.set_cons_succ]
              refine' wpAnyH_take (i := 15) (v := _) rfl (by kernel_rfl) (by kernel_rfl) (by kernel_rfl) (fun _ _ _ h => h) (yieldsIf_load_mid (by kernel_rfl) _ _ rfl _ _ rfl _ _ (fun w hSw => hSw.1) hu23 rfl hi23) hHeld ?_
              try simp only [Act.put, List.setIfInBounds_toArray, List.set_cons_zero, List.set_cons_succ]
              refine wpAnyH_take (i := 16) (v := .agg #[.int .i64 op1, .int .i64 wd1, .int .u64 vl1, .string nm1, .slice p1 ts1.length c1]) rfl (by kernel_rfl) (by kernel_rfl) (by kernel_rfl) (fun _ _ _ h => h) (Or.inl ⟨by kernel_rfl, fun w hSw => by (obtain ⟨hS0, hS1, hS2, hS3, hS4, hS5, hS6, hS7, hS8, hS9, hS10, hS11, hS12, hS13, hS14, hS15⟩ := hSw; go_simp)⟩) hHeld ?_
              try simp only [Act.put, List.setIfInBounds_toArray, List.set_cons_zero, List.set_cons_succ]
              refine wpAnyH_take (i := 17) (v := .agg #[.int .i64 op2, .int .i64 wd2, .int .u64 vl2, .string nm2, .slice p2 ts2.length c2]) rfl (by kernel_rfl) (by kernel_rfl) (by kernel_rfl) (fun _ _ _ h => h) (Or.inl ⟨by kernel_rfl, fun w hSw => by (obtain ⟨hS0, hS1, hS2, hS3, hS4, hS5, hS6, hS7, hS8, hS9, hS10, hS11, hS12, hS13, hS14, hS15⟩ := hSw; go_simp)⟩) hHeld ?_
              try simp only [Act.put, List.setIfInBounds_toArray, List.set_cons_zero, List.set_cons_succ]
              refine wpAnyH_take (i := 18) (v := .agg #[.int .i64 op3, .int .i64 wd3, .int .u64 vl3, .string nm3, .slice p3 ts3.length c3]) rfl (by kernel_rfl) (by kernel_rfl) (by kernel_rfl) (fun _ _ _ h => h) (Or.inl ⟨by kernel_rfl, fun w hSw => by (obtain ⟨hS0, hS1, hS2, hS3, hS4, hS5, hS6, hS7, hS8, hS9, hS10, hS11, hS12, hS13, hS14, hS15⟩ := hSw; go_simp)⟩) hHeld ?_
              try simp only [Act.put, List.setIfInBounds_toArray, List.set_cons_zero, List.set_cons_succ]
              refine' wpAnyH_take (i := 21) (v := _) rfl (by kernel_rfl) (by kernel_rfl) (by kernel_rfl) (fun _ _ _ h => h) (yieldsIf_load_mid (by kernel_rfl) _ _ rfl _ _ rfl _ _ (fun w hSw => hSw.1) hu23 rfl hi23) hHeld ?_
              try simp only [Act.put, List.setIfInBounds_toArray, List.set_cons_zero, List.set_cons_succ]
              refine wpAnyH_take (i := 22) (v := .agg #[.int .i64 op1, .int .i64 wd1, .int .u64 vl1, .string nm1, .slice p1 ts1.length c1]) rfl (by kernel_rfl) (by kernel_rfl) (by kernel_rfl) (fun _ _ _ h => h) (Or.inl ⟨by kernel_rfl, fun w hSw => by (obtain ⟨hS0, hS1, hS2, hS3, hS4, hS5, hS6, hS7, hS8, hS9, hS10, hS11, hS12, hS13, hS14, hS15⟩ := hSw; go_simp)⟩) hHeld ?_
              try simp only [Act.put, List.setIfInBounds_toArray, List.set_cons_zero, List.set_cons_succ]
              refine wpAnyH_take (i := 23) (v := .agg #[.int .i64 op2, .int .i64 wd2, .int .u64 vl2, .string nm2, .slice p2 ts2.length c2]) rfl (by kernel_rfl) (by kernel_rfl) (by kernel_rfl) (fun _ _ _ h => h) (Or.inl ⟨by kernel_rfl, fun w hSw => by (obtain ⟨hS0, hS1, hS2, hS3, hS4, hS5, hS6, hS7, hS8, hS9, hS10, hS11, hS12, hS13, hS14, hS15⟩ := hSw; go_simp)⟩) hHeld ?_
              try simp only [Act.put, List.setIfInBounds_toArray, List.set_cons_zero, List.set_cons_succ]
              refine wpAnyH_take (i := 24) (v := .agg #[.int .i64 op3, .int .i64 wd3, .int .u64 vl3, .string nm3, .slice p3 ts3.length c3]) rfl (by kernel_rfl) (by kernel_rfl) (by kernel_rfl) (fun _ _ _ h => h) (Or.inl ⟨by kernel_rfl, fun w hSw => by (obtain ⟨hS0, hS1, hS2, hS3, hS4, hS5, hS6, hS7, hS8, hS9, hS10, hS11, hS12, hS13, hS14, hS15⟩ := hSw; go_simp)⟩) hHeld ?_
              try simp only [Act.put, List.setIfInBounds_toArray, List.set_cons_zero, List.set_cons_succ]
              refine wpAnyH_ready (rs := [19, 25]) (by kernel_rfl) (by simp) ?_
              refine AllReadyH.cons (o := _) rfl (fun K hK => ?_) (AllReadyH.cons (o := _) rfl (fun K hK => ?_) AllReadyH.nil)
              · go_simp
                refine hK.out _ _ (sixteen (HROWc.out _ (bk_alloc hkB1 _)) (HXa.out _ (bk_alloc hkB1 _)) (HXb.out _ (bk_alloc hkB1 _)) (HXd.out _ (bk_alloc hkB1 _))) (fun hHeld => ?_)
                clear hK K
                try simp only [Act.put, List.setIfInBounds_toArray, List.set_cons_zero, List.set_cons_succ]
                refine wpAnyH_ready (rs := [20, 25]) (by kernel_rfl) (by simp) ?_
                refine AllReadyH.cons (o := _) rfl (fun K hK => ?_) (AllReadyH.cons (o := _) rfl (fun K hK => ?_) AllReadyH.nil)
                · go_simp
                  go_at_call 18; with_reducible refine (D3.out _ _ _ (row123 (HQ1.out _ hkB1) HF.out.1 (HQ2.out _ hkB1) HF.out.2.1 (HQ3.out _ hkB1) HF.out.2.2) (HTc.out _ (bk_alloc hkB1 _))).mono ?_; rintro e w6 ⟨rfl, hq⟩; have hkA3 := bk_tr (bk_alloc hkB1 _) hq
                  refine hK.out _ _ (sixteen (HROWc.out _ (hkA3)) (HXa.out _ (hkA3)) (HXb.out _ (hkA3)) (HXd.out _ (hkA3))) (fun hHeld => ?_)
                  clear hK K
                  try simp only [Act.put, List.setIfInBounds_toArray, List.set_cons_zero, List.set_cons_succ]
                  refine wpAnyH_ready (rs := [25]) (by kernel_rfl) (by simp) ?_
                  refine AllReadyH.cons (o := _) rfl (fun K hK => ?_) AllReadyH.nil
                  go_simp
                  refine hK.out _ _ (sixteen (HROWc.out _ (bk_alloc hkA3 _)) (HXa.out _ (bk_alloc hkA3 _)) (HXb.out _ (bk_alloc hkA3 _)) (HXd.out _ (bk_alloc hkA3 _))) (fun hHeld => ?_)
                  clear hK K
                  try simp only [Act.put, List.setIfInBounds_toArray, List.set_cons_zero, List.set_cons_succ]
                  refine wpAnyH_ready (rs := [26]) (by kernel_rfl) (by simp) ?_
                  refine AllReadyH.cons (o := _) rfl (fun K hK => ?_) AllReadyH.nil
                  go_simp
                  go_at_call 19; with_reducible refine (E3.out _ _ _ (row123 (HQ1.out _ hkA3) HF.out.1 (HQ2.out _ hkA3) HF.out.2.1 (HQ3.out _ hkA3) HF.out.2.2)).mono ?_; rintro e w6 ⟨rfl, hq⟩; have hkB3 := bk_tr (bk_alloc hkA3 _) hq
                  refine hK.out _ _ (sixteen (HROWc.out _ (hkB3)) (HXa.out _ (hkB3)) (HXb.out _ (hkB3)) (HXd.out _ (hkB3))) (fun hHeld => ?_)
                  clear hK K
                  try simp only [Act.put, List.setIfInBounds_toArray, List.set_cons_zero, List.set_cons_succ]
                  refine wpAnyH_take (i := 27) (v := .bool true) rfl (by kernel_rfl) (by kernel_rfl) (by kernel_rfl) (fun _ _ _ h => h) (Or.inl ⟨by kernel_rfl, fun w hSw => by (go_simp)⟩) hHeld ?_
                  try simp only [Act.put, List.setIfInBounds_toArray, List.set_cons_zero, List.set_cons_succ]
                  refine wpAnyH_take (i := 28) (v := .bool true) rfl (by kernel_rfl) (by kernel_rfl) (by kernel_rfl) (fun _ _ _ h => h) (Or.inl ⟨by kernel_rfl, fun w hSw => by (go_simp)⟩) hHeld ?_
                  try simp only [Act.put, List.setIfInBounds_toArray, List.set_cons_zero, List.set_cons_succ]
                  refine wpAnyH_take (i := 29) (v := .bool true) rfl (by kernel_rfl) (by kernel_rfl) (by kernel_rfl) (fun _ _ _ h => h) (Or.inl ⟨by kernel_rfl, fun w hSw => by (go_simp)⟩) hHeld ?_
                  try simp only [Act.put, List.setIfInBounds_toArray, List.set_cons_zero, List.set_cons_succ]
                  refine wpAnyH_ready (rs := [30]) (by kernel_rfl) (by simp) ?_
                  refine AllReadyH.cons (o := _) rfl (fun K hK => ?_) AllReadyH.nil
                  go_simp
                  go_at_call 14; refine (HT14.out _ hkB3).mono ?_; rintro e w6 ⟨rfl, hq⟩; have hkF := bk_tr hkB3 hq
                  refine hK.out _ _ (sixteen (HROWc.out _ (hkF)) (HXa.out _ (hkF)) (HXb.out _ (hkF)) (HXd.out _ (hkF))) (fun hHeld => ?_)
                  clear hK K
                  try simp only [Act.put, List.setIfInBounds_toArray, List.set_cons_zero, List.set_cons_succ]
                  refine wpAnyH_ready (rs := [31]) (by kernel_rfl) (by simp) ?_
                  refine AllReadyH.cons (o := _) rfl (fun K hK => ?_) AllReadyH.nil
                  go_simp
                  refine hK.out _ _ (sixteen (HROWc.out _ (hkF)) (HXa.out _ (hkF)) (HXb.out _ (hkF)) (HXd.out _ (hkF))) (fun hHeld => ?_)
                  clear hK K
                  try simp only [Act.put, List.setIfInBounds_toArray, List.set_cons_zero, List.set_cons_succ]
                  refine wpAnyH_ready (rs := [32]) (by kernel_rfl) (by simp) ?_
                  refine AllReadyH.cons (o := _) rfl (fun K hK => ?_) AllReadyH.nil
                  go_simp
                  refine hK.out _ _ (sixteen (HROWc.out _ (hkF)) (HXa.out _ (hkF)) (HXb.out _ (hkF)) (HXd.out _ (hkF))) (fun hHeld => ?_)
                  clear hK K
                  try simp only [Act.put, List.setIfInBounds_toArray, List.set_cons_zero, List.set_cons_succ]
                  refine wpAnyH_done (by kernel_rfl) ?_ _
                  have HE := Lib.hid hkF
                  clear hkF
                  go_wp2_with fail
                  go_ret
                  exact ⟨rfl, bk_tr HKc.out HE.out⟩
                · go_simp
                  refine hK.out _ _ (sixteen (HROWc.out _ (bk_alloc (bk_alloc hkB1 _) _)) (HXa.out _ (bk_alloc (bk_alloc hkB1 _) _)) (HXb.out _ (bk_alloc (bk_alloc hkB1 _) _)) (HXd.out _ (bk_alloc (bk_alloc hkB1 _) _))) (fun hHeld => ?_)
                  clear hK K
                  try simp only [Act.put, List.setIfInBounds_toArray, List.set_cons_zero, List.set_cons_succ]
                  refine wpAnyH_ready (rs := [20]) (by kernel_rfl) (by simp) ?_
                  refine AllReadyH.cons (o := _) rfl (fun K hK => ?_) AllReadyH.nil
                  go_simp
                  go_at_call 18; with_reducible refine (D3.out _ _ _ ((row123 (HQ1.out _ hkB1) HF.out.1 (HQ2.out _ hkB1) HF.out.2.1 (HQ3.out _ hkB1) HF.out.2.2).keep (bk_alloc (BK.refl _) _)) (HTc.out _ (bk_alloc (bk_alloc hkB1 _) _))).mono ?_; rintro e w6 ⟨rfl, hq⟩; have hkA3 := bk_tr (bk_alloc (bk_alloc hkB1 _) _) hq
                  refine hK.out _ _ (sixteen (HROWc.out _ (hkA3)) (HXa.out _ (hkA3)) (HXb.out _ (hkA3)) (HXd.out _ (hkA3))) (fun hHeld => ?_)
                  clear hK K
                  try simp only [Act.put, List.setIfInBounds_toArray, List.set_cons_zero, List.set_cons_succ]
                  refine wpAnyH_ready (rs := [26]) (by kernel_rfl) (by simp) ?_
                  refine AllReadyH.cons (o := _) rfl (fun K hK => ?_) AllReadyH.nil
                  go_simp
                  go_at_call 19; with_reducible refine (E3.out _ _ _ ((row123m (by simp) (HQ1.out _ (bk_alloc hkB1 _)) HF.out.1 (HQ2.out _ (bk_alloc hkB1 _)) HF.out.2.1 (HQ3.out _ (bk_alloc hkB1 _)) HF.out.2.2).keep hq)).mono ?_; rintro e w6 ⟨rfl, hq2⟩; have hkB3 := bk_tr (hkA3) hq2
                  refine hK.out _ _ (sixteen (HROWc.out _ (hkB3)) (HXa.out _ (hkB3)) (HXb.out _ (hkB3)) (HXd.out _ (hkB3))) (fun hHeld => ?_)
                  clear hK K
                  try simp only [Act.put, List.setIfInBounds_toArray, List.set_cons_zero, List.set_cons_succ]
                  refine wpAnyH_take (i := 27) (v := .bool true) rfl (by kernel_rfl) (by kernel_rfl) (by kernel_rfl) (fun _ _ _ h => h) (Or.inl ⟨by kernel_rfl, fun w hSw => by (go_simp)⟩) hHeld ?_
                  try simp only [Act.put, List.setIfInBounds_toArray, List.set_cons_zero, List.set_cons_succ]
                  refine wpAnyH_take (i := 28) (v := .bool true) rfl (by kernel_rfl) (by kernel_rfl) (by kernel_rfl) (fun _ _ _ h => h) (Or.inl ⟨by kernel_rfl, fun w hSw => by (go_simp)⟩) hHeld ?_
                  try simp only [Act.put, List.setIfInBounds_toArray, List.set_cons_zero, List.set_cons_succ]
                  refine wpAnyH_take (i := 29) (v := .bool true) rfl (by kernel_rfl) (by kernel_rfl) (by kernel_rfl) (fun _ _ _ h => h) (Or.inl ⟨by kernel_rfl, fun w hSw => by (go_simp)⟩) hHeld ?_
                  try simp only [Act.put, List.setIfInBounds_toArray, List.set_cons_zero, List.set_cons_succ]
                  refine wpAnyH_ready (rs := [30]) (by kernel_rfl) (by simp) ?_
                  refine AllReadyH.cons (o := _) rfl (fun K hK => ?_) AllReadyH.nil
                  go_simp
                  go_at_call 14; refine (HT14.out _ hkB3).mono ?_; rintro e w6 ⟨rfl, hq⟩; have hkF := bk_tr hkB3 hq
                  refine hK.out _ _ (sixteen (HROWc.out _ (hkF)) (HXa.out _ (hkF)) (HXb.out _ (hkF)) (HXd.out _ (hkF))) (fun hHeld => ?_)
                  clear hK K
                  try simp only [Act.put, List.setIfInBounds_toArray, List.set_cons_zero, List.set_cons_succ]
                  refine wpAnyH_ready (rs := [31]) (by kernel_rfl) (by simp) ?_
                  refine AllReadyH.cons (o := _) rfl (fun K hK => ?_) AllReadyH.nil
                  go_simp
                  refine hK.out _ _ (sixteen (HROWc.out _ (hkF)) (HXa.out _ (hkF)) (HXb.out _ (hkF)) (HXd.out _ (hkF))) (fun hHeld => ?_)
                  clear hK K
                  try simp only [Act.put, List.setIfInBounds_toArray, List.set_cons_zero, List.set_cons_succ]
                  refine wpAnyH_ready (rs := [32]) (by kernel_rfl) (by simp) ?_
                  refine AllReadyH.cons (o := _) rfl (fun K hK => ?_) AllReadyH.nil
                  go_simp
                  refine hK.out _ _ (sixteen (HROWc.out _ (hkF)) (HXa.out _ (hkF)) (HXb.out _ (hkF)) (HXd.out _ (hkF))) (fun hHeld => ?_)
                  clear hK K
                  try simp only [Act.put, List.setIfInBounds_toArray, List.set_cons_zero, List.set_cons_succ]
                  refine wpAnyH_done (by kernel_rfl) ?_ _
                  have HE := Lib.hid hkF
                  clear hkF
                  go_wp2_with fail
                  go_ret
                  exact ⟨rfl, bk_tr HKc.out HE.out⟩
              · go_simp
                refine hK.out _ _ (sixteen (HROWc.out _ (bk_alloc hkB1 _)) (HXa.out _ (bk_alloc hkB1 _)) (HXb.out _ (bk_alloc hkB1 _)) (HXd.out _ (bk_alloc hkB1 _))) (fun hHeld => ?_)
                clear hK K
                try simp only [Act.put, List.setIfInBounds_toArray, List.set_cons_zero, List.set_cons_succ]
                refine wpAnyH_ready (rs := [19]) (by kernel_rfl) (by simp) ?_
                refine AllReadyH.cons (o := _) rfl (fun K hK => ?_) AllReadyH.nil
                go_simp
                refine hK.out _ _ (sixteen (HROWc.out _ (bk_alloc (bk_alloc hkB1 _) _)) (HXa.out _ (bk_alloc (bk_alloc hkB1 _) _)) (HXb.out _ (bk_alloc (bk_alloc hkB1 _) _)) (HXd.out _ (bk_alloc (bk_alloc hkB1 _) _))) (fun hHeld => ?_)
                clear hK K
                try simp only [Act.put, List.setIfInBounds_toArray, List.set_cons_zero, List.set_cons_succ]
                refine wpAnyH_ready (rs := [20]) (by kernel_rfl) (by simp) ?_
                refine AllReadyH.cons (o := _) rfl (fun K hK => ?_) AllReadyH.nil
                go_simp
                go_at_call 18; with_reducible refine (D3.out _ _ _ (row123m (by simp) (HQ1.out _ (bk_alloc hkB1 _)) HF.out.1 (HQ2.out _ (bk_alloc hkB1 _)) HF.out.2.1 (HQ3.out _ (bk_alloc hkB1 _)) HF.out.2.2) (HTc.out _ (bk_alloc (bk_alloc hkB1 _) _))).mono ?_; rintro e w6 ⟨rfl, hq⟩; have hkA3 := bk_tr (bk_alloc (bk_alloc hkB1 _) _) hq
                refine hK.out _ _ (sixteen (HROWc.out _ (hkA3)) (HXa.out _ (hkA3)) (HXb.out _ (hkA3)) (HXd.out _ (hkA3))) (fun hHeld => ?_)
                clear hK K
                try simp only [Act.put, List.setIfInBounds_toArray, List.set_cons_zero, List.set_cons_succ]
                refine wpAnyH_ready (rs := [26]) (by kernel_rfl) (by simp) ?_
                refine AllReadyH.cons (o := _) rfl (fun K hK => ?_) AllReadyH.nil
                go_simp
                go_at_call 19; with_reducible refine (E3.out _ _ _ (((row123 (HQ1.out _ hkB1) HF.out.1 (HQ2.out _ hkB1) HF.out.2.1 (HQ3.out _ hkB1) HF.out.2.2).keep (bk_alloc (BK.refl _) _)).keep hq)).mono ?_; rintro e w6 ⟨rfl, hq2⟩; have hkB3 := bk_tr (hkA3) hq2
                refine hK.out _ _ (sixteen (HROWc.out _ (hkB3)) (HXa.out _ (hkB3)) (HXb.out _ (hkB3)) (HXd.out _ (hkB3))) (fun hHeld => ?_)
                clear hK K
                try simp only [Act.put, List.setIfInBounds_toArray, List.set_cons_zero, List.set_cons_succ]
                refine wpAnyH_take (i := 27) (v := .bool true) rfl (by kernel_rfl) (by kernel_rfl) (by kernel_rfl) (fun _ _ _ h => h) (Or.inl ⟨by kernel_rfl, fun w hSw => by (go_simp)⟩) hHeld ?_
                try simp only [Act.put, List.setIfInBounds_toArray, List.set_cons_zero, List.set_cons_succ]
                refine wpAnyH_take (i := 28) (v := .bool true) rfl (by kernel_rfl) (by kernel_rfl) (by kernel_rfl) (fun _ _ _ h => h) (Or.inl ⟨by kernel_rfl, fun w hSw => by (go_simp)⟩) hHeld ?_
                try simp only [Act.put, List.setIfInBounds_toArray, List.set_cons_zero, List.set_cons_succ]
                refine wpAnyH_take (i := 29) (v := .bool true) rfl (by kernel_rfl) (by kernel_rfl) (by kernel_rfl) (fun _ _ _ h => h) (Or.inl ⟨by kernel_rfl, fun w hSw => by (go_simp)⟩) hHeld ?_
                try simp only [Act.put, List.setIfInBounds_toArray, List.set_cons_zero, List.set_cons_succ]
                refine wpAnyH_ready (rs := [30]) (by kernel_rfl) (by simp) ?_
                refine AllReadyH.cons (o := _) rfl (fun K hK => ?_) AllReadyH.nil
                go_simp
                go_at_call 14; refine (HT14.out _ hkB3).mono ?_; rintro e w6 ⟨rfl, hq⟩; have hkF := bk_tr hkB3 hq
                refine hK.out _ _ (sixteen (HROWc.out _ (hkF)) (HXa.out _ (hkF)) (HXb.out _ (hkF)) (HXd.out _ (hkF))) (fun hHeld => ?_)
                clear hK K
                try simp only [Act.put, List.setIfInBounds_toArray, List.set_cons_zero, List.set_cons_succ]
                refine wpAnyH_ready (rs := [31]) (by kernel_rfl) (by simp) ?_
                refine AllReadyH.cons (o := _) rfl (fun K hK => ?_) AllReadyH.nil
                go_simp
                refine hK.out _ _ (sixteen (HROWc.out _ (hkF)) (HXa.out _ (hkF)) (HXb.out _ (hkF)) (HXd.out _ (hkF))) (fun hHeld => ?_)
                clear hK K
                try simp only [Act.put, List.setIfInBounds_toArray, List.set_cons_zero, List.set_cons_succ]
                refine wpAnyH_ready (rs := [32]) (by kernel_rfl) (by simp) ?_
                refine AllReadyH.cons (o := _) rfl (fun K hK => ?_) AllReadyH.nil
                go_simp
                refine hK.out _ _ (sixteen (HROWc.out _ (hkF)) (HXa.out _ (hkF)) (HXb.out _ (hkF)) (HXd.out _ (hkF))) (fun hHeld => ?_)
                clear hK K
                try simp only [Act.put, List.setIfInBounds_toArray, List.set_cons_zero, List.set_cons_succ]
                refine wpAnyH_done (by kernel_rfl) ?_ _
                have HE := Lib.hid hkF
                clear hkF
                go_wp2_with fail
                go_ret
                exact ⟨rfl, bk_tr HKc.out HE.out⟩
          · go_simp
            refine hK.out _ _ (sixteen (HROWc.out _ (bk_alloc hk1 _)) (HXa.out _ (bk_alloc hk1 _)) (HXb.out _ (bk_alloc hk1 _)) (HXd.out _ (bk_alloc hk1 _))) (fun hHeld => ?_)
            clear hK K
            try simp only [Act.put, List.setIfInBounds_toArray, List.set_cons_zero, List.set_cons_succ]
            refine wpAnyH_ready (rs := [6]) (by kernel_rfl) (by simp) ?_
            refine AllReadyH.cons (o := _) rfl (fun K hK => ?_) AllReadyH.nil
            go_simp
            refine hK.out _ _ (sixteen (HROWc.out _ (bk_alloc (bk_alloc hk1 _) _)) (HXa.out _ (bk_alloc (bk_alloc hk1 _) _)) (HXb.out _ (bk_alloc (bk_alloc hk1 _) _)) (HXd.out _ (bk_alloc (bk_alloc hk1 _) _))) (fun hHeld => ?_)
            clear hK K
            try simp only [Act.put, List.setIfInBounds_toArray, List.set_cons_zero, List.set_cons_succ]
            refine wpAnyH_ready (rs := [7]) (by kernel_rfl) (by simp) ?_
            refine AllReadyH.cons (o := _) rfl (fun K hK => ?_) AllReadyH.nil
            go_simp
            go_at_call 18; with_reducible refine (D1.out _ _ _ (row1m (by simp) (HQ1.out _ (bk_alloc hk1 _)) HF.out.1) (HTc.out _ (bk_alloc (bk_alloc hk1 _) _))).mono ?_; rintro e w6 ⟨rfl, hq⟩; have hkA1 := bk_tr (bk_alloc (bk_alloc hk1 _) _) hq
            refine hK.out _ _ (sixteen (HROWc.out _ (hkA1)) (HXa.out _ (hkA1)) (HXb.out _ (hkA1)) (HXd.out _ (hkA1))) (fun hHeld => ?_)
            clear hK K
            try simp only [Act.put, List.setIfInBounds_toArray, List.set_cons_zero, List.set_cons_succ]
            refine wpAnyH_ready (rs := [11]) (by kernel_rfl) (by simp) ?_
            refine AllReadyH.cons (o := _) rfl (fun K hK => ?_) AllReadyH.nil
            go_simp
            go_at_call 19; with_reducible refine (E1.out _ _ _ (((row1 (HQ1.out _ hk1) HF.out.1).keep (bk_alloc (BK.refl _) _)).keep hq)).mono ?_; rintro e w6 ⟨rfl, hq2⟩; have hkB1 := bk_tr (hkA1) hq2
            refine hK.out _ _ (sixteen (HROWc.out _ (hkB1)) (HXa.out _ (hkB1)) (HXb.out _ (hkB1)) (HXd.out _ (hkB1))) (fun hHeld => ?_)
            clear hK K
            try simp only [Act.put, List.setIfInBounds_toArray, List.set_cons_zero, List.set_cons_succ]
            refine wpAnyH_take (i := 12) (v := .bool true) rfl (by kernel_rfl) (by kernel_rfl) (by kernel_rfl) (fun _ _ _ h => h) (Or.inl ⟨by kernel_rfl, fun w hSw => by (go_simp)⟩) hHeld ?_
            try simp only [Act.put, List.setIfInBounds_toArray, List.set_cons_zero, List.set_cons_succ]
            refine wpAnyH_take (i := 13) (v := .bool true) rfl (by kernel_rfl) (by kernel_rfl) (by kernel_rfl) (fun _ _ _ h => h) (Or.inl ⟨by kernel_rfl, fun w hSw => by (go_simp)⟩) hHeld ?_
            try simp only [Act.put, List.setIfInBounds_toArray, List.set_cons_zero, List.set_cons_succ]
            refine wpAnyH_take (i := 14) (v := .bool true) rfl (by kernel_rfl) (by kernel_rfl) (by kernel_rfl) (fun _ _ _ h => h) (Or.inl ⟨by kernel_rfl, fun w hSw => by (go_simp)⟩) hHeld ?_
            try simp only [Act.put, List.setIfInBounds_toArray, List.set_cons_zero, List.set_cons_succ]
            refine' wpAnyH_take (i := 15) (v := _) rfl (by kernel_rfl) (by kernel_rfl) (by kernel_rfl) (fun _ _ _ h => h) (yieldsIf_load_mid (by kernel_rfl) _ _ rfl _ _ rfl _ _ (fun w hSw => hSw.1) hu23 rfl hi23) hHeld ?_
            try simp only [Act.put, List.setIfInBounds_toArray, List.set_cons_zero, List.set_cons_succ]
            refine wpAnyH_take (i := 16) (v := .agg #[.int .i64 op1, .int .i64 wd1, .int .u64 vl1, .string nm1, .slice p1 ts1.length c1]) rfl (by kernel_rfl) (by kernel_rfl) (by kernel_rfl) (fun _ _ _ h => h) (Or.inl ⟨by kernel_rfl, fun w hSw => by (obtain ⟨hS0, hS1, hS2, hS3, hS4, hS5, hS6, hS7, hS8, hS9, hS10, hS11, hS12, hS13, hS14, hS15⟩ := hSw; go_simp)⟩) hHeld ?_
            try simp only [Act.put, List.setIfInBounds_toArray, List.set_cons_zero, List.set_cons_succ]
            refine wpAnyH_take (i := 17) (v := .agg #[.int .i64 op2, .int .i64 wd2, .int .u64 vl2, .string nm2, .slice p2 ts2.length c2]) rfl (by kernel_rfl) (by kernel_rfl) (by kernel_rfl) (fun _ _ _ h => h) (Or.inl ⟨by kernel_rfl, fun w hSw => by (obtain ⟨hS0, hS1, hS2, hS3, hS4, hS5, hS6, hS7, hS8, hS9, hS10, hS11, hS12, hS13, hS14, hS15⟩ := hSw; go_simp)⟩) hHeld ?_
            try simp only [Act.put, List.setIfInBounds_toArray, List.set_cons_zero, List.set_cons_succ]
            refine wpAnyH_take (i := 18) (v := .agg #[.int .i64 op3, .int .i64 wd3, .int .u64 vl3, .string nm3, .slice p3 ts3.length c3]) rfl (by kernel_rfl) (by kernel_rfl) (by kernel_rfl) (fun _ _ _ h => h) (Or.inl ⟨by kernel_rfl, fun w hSw => by (obtain ⟨hS0, hS1, hS2, hS3, hS4, hS5, hS6, hS7, hS8, hS9, hS10, hS11, hS12, hS13, hS14, hS15⟩ := hSw; go_simp)⟩) hHeld ?_
            try simp only [Act.put, List.setIfInBounds_toArray, List.set_cons_zero, List.set_cons_succ]
            refine' wpAnyH_take (i := 21) (v := _) rfl (by kernel_rfl) (by kernel_rfl) (by kernel_rfl) (fun _ _ _ h => h) (yieldsIf_load_mid (by kernel_rfl) _ _ rfl _ _ rfl _ _ (fun w hSw => hSw.1) hu23 rfl hi23) hHeld ?_
            try simp only [Act.put, List.setIfInBounds_toArray, List.set_cons_zero, List.set_cons_succ]
            refine wpAnyH_take (i := 22) (v := .agg #[.int .i64 op1, .int .i64 wd1, .int .u64 vl1, .string nm1, .slice p1 ts1.length c1]) rfl (by kernel_rfl) (by kernel_rfl) (by kernel_rfl) (fun _ _ _ h => h) (Or.inl ⟨by kernel_rfl, fun w hSw => by (obtain ⟨hS0, hS1, hS2, hS3, hS4, hS5, hS6, hS7, hS8, hS9, hS10, hS11, hS12, hS13, hS14, hS15⟩ := hSw; go_simp)⟩) hHeld ?_
            try simp only [Act.put, List.setIfInBounds_toArray, List.set_cons_zero, List.set_cons_succ]
            refine wpAnyH_take (i := 23) (v := .agg #[.int .i64 op2, .int .i64 wd2, .int .u64 vl2, .string nm2, .slice p2 ts2.length c2]) rfl (by kernel_rfl) (by kernel_rfl) (by kernel_rfl) (fun _ _ _ h => h) (Or.inl ⟨by kernel_rfl, fun w hSw => by (obtain ⟨hS0, hS1, hS2, hS3, hS4, hS5, hS6, hS7, hS8, hS9, hS10, hS11, hS12, hS13, hS14, hS15⟩ := hSw; go_simp)⟩) hHeld ?_
            try simp only [Act.put, List.setIfInBounds_toArray, List.set_cons_zero, List.set_cons_succ]
            refine wpAnyH_take (i := 24) (v := .agg #[.int .i64 op3, .int .i64 wd3, .int .u64 vl3, .string nm3, .slice p3 ts3.length c3]) rfl (by kernel_rfl) (by kernel_rfl) (by kernel_rfl) (fun _ _ _ h => h) (Or.inl ⟨by kernel_rfl, fun w hSw => by (obtain ⟨hS0, hS1, hS2, hS3, hS4, hS5, hS6, hS7, hS8, hS9, hS10, hS11, hS12, hS13, hS14, hS15⟩ := hSw; go_simp)⟩) hHeld ?_
            try simp only [Act.put, List.setIfInBounds_toArray, List.set_cons_zero, List.set_cons_succ]
            refine wpAnyH_ready (rs := [19, 25]) (by kernel_rfl) (by simp) ?_
            refine AllReadyH.cons (o := _) rfl (fun K hK => ?_) (AllReadyH.cons (o := _) rfl (fun K hK => ?_) AllReadyH.nil)
            · go_simp
              refine hK.out _ _ (sixteen (HROWc.out _ (bk_alloc hkB1 _)) (HXa.out _ (bk_alloc hkB1 _)) (HXb.out _ (bk_alloc hkB1 _)) (HXd.out _ (bk_alloc hkB1 _))) (fun hHeld => ?_)
              clear hK K
              try simp only [Act.put, List.setIfInBounds_toArray, List.set_cons_zero, List.set_cons_succ]
              refine wpAnyH_ready (rs := [20, 25]) (by kernel_rfl) (by simp) ?_
              refine AllReadyH.cons (o := _) rfl (fun K hK => ?_) (AllReadyH.cons (o := _) rfl (fun K hK => ?_) AllReadyH.nil)
              · go_simp
                go_at_call 18; with_reducible refine (D3.out _ _ _ (row123 (HQ1.out _ hkB1) HF.out.1 (HQ2.out _ hkB1) HF.out.2.1 (HQ3.out _ hkB1) HF.out.2.2) (HTc.out _ (bk_alloc hkB1 _))).mono ?_; rintro e w6 ⟨rfl, hq⟩; have hkA4 := bk_tr (bk_alloc hkB1 _) hq
                refine hK.out _ _ (sixteen (HROWc.out _ (hkA4)) (HXa.out _ (hkA4)) (HXb.out _ (hkA4)) (HXd.out _ (hkA4))) (fun hHeld => ?_)
                clear hK K
                try simp only [Act.put, List.setIfInBounds_toArray, List.set_cons_zero, List.set_cons_succ]
                refine wpAnyH_ready (rs := [25]) (by kernel_rfl) (by simp) ?_
                refine AllReadyH.cons (o := _) rfl (fun K hK => ?_) AllReadyH.nil
                go_simp
                refine hK.out _ _ (sixteen (HROWc.out _ (bk_alloc hkA4 _)) (HXa.out _ (bk_alloc hkA4 _)) (HXb.out _ (bk_alloc hkA4 _)) (HXd.out _ (bk_alloc hkA4 _))) (fun hHeld => ?_)
                clear hK K
                try simp only [Act.put, List.setIfInBounds_toArray, List.set_cons_zero, List.set_cons_succ]
                refine wpAnyH_ready (rs := [26]) (by kernel_rfl) (by simp) ?_
                refine AllReadyH.cons (o := _) rfl (fun K hK => ?_) AllReadyH.nil
                go_simp
                go_at_call 19; with_reducible refine (E3.out _ _ _ (row123 (HQ1.out _ hkA4) HF.out.1 (HQ2.out _ hkA4) HF.out.2.1 (HQ3.out _ hkA4) HF.out.2.2)).mono ?_; rintro e w6 ⟨rfl, hq⟩; have hkB4 := bk_tr (bk_alloc hkA4 _) hq
                refine hK.out _ _ (sixteen (HROWc.out _ (hkB4)) (HXa.out _ (hkB4)) (HXb.out _ (hkB4)) (HXd.out _ (hkB4))) (fun hHeld => ?_)
                clear hK K
                try simp only [Act.put, List.setIfInBounds_toArray, List.set_cons_zero, List.set_cons_succ]
                refine wpAnyH_take (i := 27) (v := .bool true) rfl (by kernel_rfl) (by kernel_rfl) (by kernel_rfl) (fun _ _ _ h => h) (Or.inl ⟨by kernel_rfl, fun w hSw => by (go_simp)⟩) hHeld ?_
                try simp only [Act.put, List.setIfInBounds_toArray, List.set_cons_zero, List.set_cons_succ]
                refine wpAnyH_take (i := 28) (v := .bool true) rfl (by kernel_rfl) (by kernel_rfl) (by kernel_rfl) (fun _ _ _ h => h) (Or.inl ⟨by kernel_rfl, fun w hSw => by (go_simp)⟩) hHeld ?_
                try simp only [Act.put, List.setIfInBounds_toArray, List.set_cons_zero, List.set_cons_succ]
                refine wpAnyH_take (i := 29) (v := .bool true) rfl (by kernel_rfl) (by kernel_rfl) (by kernel_rfl) (fun _ _ _ h => h) (Or.inl ⟨by kernel_rfl, fun w hSw => by (go_simp)⟩) hHeld ?_
                try simp only [Act.put, List.setIfInBounds_toArray, List.set_cons_zero, List.set_cons_succ]
                refine wpAnyH_ready (rs := [30]) (by kernel_rfl) (by simp) ?_
                refine AllReadyH.cons (o := _) rfl (fun K hK => ?_) AllReadyH.nil
                go_simp
                go_at_call 14; refine (HT14.out _ hkB4).mono ?_; rintro e w6 ⟨rfl, hq⟩; have hkF := bk_tr hkB4 hq
                refine hK.out _ _ (sixteen (HROWc.out _ (hkF)) (HXa.out _ (hkF)) (HXb.out _ (hkF)) (HXd.out _ (hkF))) (fun hHeld => ?_)
                clear hK K
                try simp only [Act.put, List.setIfInBounds_toArray, List.set_cons_zero, List.set_cons_succ]
                refine wpAnyH_ready (rs := [31]) (by kernel_rfl) (by simp) ?_
                refine AllReadyH.cons (o := _) rfl (fun K hK => ?_) AllReadyH.nil
                go_simp
                refine hK.out _ _ (sixteen (HROWc.out _ (hkF)) (HXa.out _ (hkF)) (HXb.out _ (hkF)) (HXd.out _ (hkF))) (fun hHeld => ?_)
                clear hK K
                try simp only [Act.put, List.setIfInBounds_toArray, List.set_cons_zero, List.set_cons_succ]
                refine wpAnyH_ready (rs := [32]) (by kernel_rfl) (by simp) ?_
                refine AllReadyH.cons (o := _) rfl (fun K hK => ?_) AllReadyH.nil
                go_simp
                refine hK.out _ _ (sixteen (HROWc.out _ (hkF)) (HXa.out _ (hkF)) (HXb.out _ (hkF)) (HXd.out _ (hkF))) (fun hHeld => ?_)
                clear hK K
                try simp only [Act.put, List.setIfInBounds_toArray, List.set_cons_zero, List.set_cons_succ]
                refine wpAnyH_done (by kernel_rfl) ?_ _
                have HE := Lib.hid hkF
                clear hkF
                go_wp2_with fail
                go_ret
                exact ⟨rfl, bk_tr HKc.out HE.out⟩
              · go_simp
                refine hK.out _ _ (sixteen (HROWc.out _ (bk_alloc (bk_alloc hkB1 _) _)) (HXa.out _ (bk_alloc (bk_alloc hkB1 _) _)) (HXb.out _ (bk_alloc (bk_alloc hkB1 _) _)) (HXd.out _ (bk_alloc (bk_alloc hkB1 _) _))) (fun hHeld => ?_)
                clear hK K
                try simp only [Act.put, List.setIfInBounds_toArray, List.set_cons_zero, List.set_cons_succ]
                refine wpAnyH_ready (rs := [20]) (by kernel_rfl) (by simp) ?_
                refine AllReadyH.cons (o := _) rfl (fun K hK => ?_) AllReadyH.nil
                go_simp
                go_at_call 18; with_reducible refine (D3.out _ _ _ ((row123 (HQ1.out _ hkB1) HF.out.1 (HQ2.out _ hkB1) HF.out.2.1 (HQ3.out _ hkB1) HF.out.2.2).keep (bk_alloc (BK.refl _) _)) (HTc.out _ (bk_alloc (bk_alloc hkB1 _) _))).mono ?_; rintro e w6 ⟨rfl, hq⟩; have hkA4 := bk_tr (bk_alloc (bk_alloc hkB1 _) _) hq
                refine hK.out _ _ (sixteen (HROWc.out _ (hkA4)) (HXa.out _ (hkA4)) (HXb.out _ (hkA4)) (HXd.out _ (hkA4))) (fun hHeld => ?_)
                clear hK K
                try simp only [Act.put, List.setIfInBounds_toArray, List.set_cons_zero, List.set_cons_succ]
                refine wpAnyH_ready (rs := [26]) (by kernel_rfl) (by simp) ?_
                refine AllReadyH.cons (o := _) rfl (fun K hK => ?_) AllReadyH.nil
                go_simp
                go_at_call 19; with_reducible refine (E3.out _ _ _ ((row123m (by simp) (HQ1.out _ (bk_alloc hkB1 _)) HF.out.1 (HQ2.out _ (bk_alloc hkB1 _)) HF.out.2.1 (HQ3.out _ (bk_alloc hkB1 _)) HF.out.2.2).keep hq)).mono ?_; rintro e w6 ⟨rfl, hq2⟩; have hkB4 := bk_tr (hkA4) hq2
                refine hK.out _ _ (sixteen (HROWc.out _ (hkB4)) (HXa.out _ (hkB4)) (HXb.out _ (hkB4)) (HXd.out _ (hkB4))) (fun hHeld => ?_)
                clear hK K
                try simp only [Act.put, List.setIfInBounds_toArray, List.set_cons_zero, List.set_cons_succ]
                refine wpAnyH_take (i := 27) (v := .bool true) rfl (by kernel_rfl) (by kernel_rfl) (by kernel_rfl) (fun _ _ _ h => h) (Or.inl ⟨by kernel_rfl, fun w hSw => by (go_simp)⟩) hHeld ?_
                try simp only [Act.put, List.setIfInBounds_toArray, List.set_cons_zero, List.set_cons_succ]
                refine wpAnyH_take (i := 28) (v := .bool true) rfl (by kernel_rfl) (by kernel_rfl) (by kernel_rfl) (fun _ _ _ h => h) (Or.inl ⟨by kernel_rfl, fun w hSw => by (go_simp)⟩) hHeld ?_
                try simp only [Act.put, List.setIfInBounds_toArray, List.set_cons_zero, List.set_cons_succ]
                refine wpAnyH_take (i := 29) (v := .bool true) rfl (by kernel_rfl) (by kernel_rfl) (by kernel_rfl) (fun _ _ _ h => h) (Or.inl ⟨by kernel_rfl, fun w hSw => by (go_simp)⟩) hHeld ?_
                try simp only [Act.put, List.setIfInBounds_toArray, List.set_cons_zero, List.set_cons_succ]
                refine wpAnyH_ready (rs := [30]) (by kernel_rfl) (by simp) ?_
                refine AllReadyH.cons (o := _) rfl (fun K hK => ?_) AllReadyH.nil
                go_simp
                go_at_call 14; refine (HT14.out _ hkB4).mono ?_; rintro e w6 ⟨rfl, hq⟩; have hkF := bk_tr hkB4 hq
                refine hK.out _ _ (sixteen (HROWc.out _ (hkF)) (HXa.out _ (hkF)) (HXb.out _ (hkF)) (HXd.out _ (hkF))) (fun hHeld => ?_)
                clear hK K
                try simp only [Act.put, List.setIfInBounds_toArray, List.set_cons_zero, List.set_cons_succ]
                refine wpAnyH_ready (rs := [31]) (by kernel_rfl) (by simp) ?_
                refine AllReadyH.cons (o := _) rfl (fun K hK => ?_) AllReadyH.nil
                go_simp
                refine hK.out _ _ (sixteen (HROWc.out _ (hkF)) (HXa.out _ (hkF)) (HXb.out _ (hkF)) (HXd.out _ (hkF))) (fun hHeld => ?_)
                clear hK K
                try simp only [Act.put, List.setIfInBounds_toArray, List.set_cons_zero, List.set_cons_succ]
                refine wpAnyH_ready (rs := [32]) (by kernel_rfl) (by simp) ?_
                refine AllReadyH.cons (o := _) rfl (fun K hK => ?_) AllReadyH.nil
                go_simp
                refine hK.out _ _ (sixteen (HROWc.out _ (hkF)) (HXa.out _ (hkF)) (HXb.out _ (hkF)) (HXd.out _ (hkF))) (fun hHeld => ?_)
                clear hK K
                try simp only [Act.put, List.setIfInBounds_toArray, List.set_cons_zero, List.set_cons_succ]
                refine wpAnyH_done (by kernel_rfl) ?_ _
                have HE := Lib.hid hkF
                clear hkF
                go_wp2_with fail
                go_ret
                exact ⟨rfl, bk_tr HKc.out HE.out⟩
            · go_simp
              refine hK.out _ _ (sixteen (HROWc.out _ (bk_alloc hkB1 _)) (HXa.out _ (bk_alloc hkB1 _)) (HXb.out _ (bk_alloc hkB1 _)) (HXd.out _ (bk_alloc hkB1 _))) (fun hHeld => ?_)
              clear hK K
              try simp only [Act.put, List.setIfInBounds_toArray, List.set_cons_zero, List.set_cons_succ]
              refine wpAnyH_ready (rs := [19]) (by kernel_rfl) (by simp) ?_
              refine AllReadyH.cons (o := _) rfl (fun K hK => ?_) AllReadyH.nil
              go_simp
              refine hK.out _ _ (sixteen (HROWc.out _ (bk_alloc (bk_alloc hkB1 _) _)) (HXa.out _ (bk_alloc (bk_alloc hkB1 _) _)) (HXb.out _ (bk_alloc (bk_alloc hkB1 _) _)) (HXd.out _ (bk_alloc (bk_alloc hkB1 _) _))) (fun hHeld => ?_)
              clear hK K
              try simp only [Act.put, List.setIfInBounds_toArray, List.set_cons_zero, List.set_cons_succ]
              refine wpAnyH_ready (rs := [20]) (by kernel_rfl) (by simp) ?_
              refine AllReadyH.cons (o := _) rfl (fun K hK => ?_) AllReadyH.nil
              go_simp
              go_at_call 18; with_reducible refine (D3.out _ _ _ (row123m (by simp) (HQ1.out _ (bk_alloc hkB1 _)) HF.out.1 (HQ2.out _ (bk_alloc hkB1 _)) HF.out.2.1 (HQ3.out _ (bk_alloc hkB1 _)) HF.out.2.2) (HTc.out _ (bk_alloc (bk_alloc hkB1 _) _))).mono ?_; rintro e w6 ⟨rfl, hq⟩; have hkA4 := bk_tr (bk_alloc (bk_alloc hkB1 _) _) hq
              refine hK.out _ _ (sixteen (HROWc.out _ (hkA4)) (HXa.out _ (hkA4)) (HXb.out _ (hkA4)) (HXd.out _ (hkA4))) (fun hHeld => ?_)
              clear hK K
              try simp only [Act.put, List.setIfInBounds_toArray, List.set_cons_zero, List.set_cons_succ]
              refine wpAnyH_ready (rs := [26]) (by kernel_rfl) (by simp) ?_
              refine AllReadyH.cons (o := _) rfl (fun K hK => ?_) AllReadyH.nil
              go_simp
              go_at_call 19; with_reducible refine (E3.out _ _ _ (((row123 (HQ1.out _ hkB1) HF.out.1 (HQ2.out _ hkB1) HF.out.2.1 (HQ3.out _ hkB1) HF.out.2.2).keep (bk_alloc (BK.refl _) _)).keep hq)).mono ?_; rintro e w6 ⟨rfl, hq2⟩; have hkB4 := bk_tr (hkA4) hq2
              refine hK.out _ _ (sixteen (HROWc.out _ (hkB4)) (HXa.out _ (hkB4)) (HXb.out _ (hkB4)) (HXd.out _ (hkB4))) (fun hHeld => ?_)
              clear hK K
              try simp only [Act.put, List.setIfInBounds_toArray, List.set_cons_zero, List.set_cons_succ]
              refine wpAnyH_take (i := 27) (v := .bool true) rfl (by kernel_rfl) (by kernel_rfl) (by kernel_rfl) (fun _ _ _ h => h) (Or.inl ⟨by kernel_rfl, fun w hSw => by (go_simp)⟩) hHeld ?_
              try simp only [Act.put, List.setIfInBounds_toArray, List.set_cons_zero, List.set_cons_succ]
              refine wpAnyH_take (i := 28) (v := .bool true) rfl (by kernel_rfl) (by kernel_rfl) (by kernel_rfl) (fun _ _ _ h => h) (Or.inl ⟨by kernel_rfl, fun w hSw => by (go_simp)⟩) hHeld ?_
              try simp only [Act.put, List.setIfInBounds_toArray, List.set_cons_zero, List.set_cons_succ]
              refine wpAnyH_take (i := 29) (v := .bool true) rfl (by kernel_rfl) (by kernel_rfl) (by kernel_rfl) (fun _ _ _ h => h) (Or.inl ⟨by kernel_rfl, fun w hSw => by (go_simp)⟩) hHeld ?_
              try simp only [Act.put, List.setIfInBounds_toArray, List.set_cons_zero, List.set_cons_succ]
              refine wpAnyH_ready (rs := [30]) (by kernel_rfl) (by simp) ?_
              refine AllReadyH.cons (o := _) rfl (fun K hK => ?_) AllReadyH.nil
              go_simp
              go_at_call 14; refine (HT14.out _ hkB4).mono ?_; rintro e w6 ⟨rfl, hq⟩; have hkF := bk_tr hkB4 hq
              refine hK.out _ _ (sixteen (HROWc.out _ (hkF)) (HXa.out _ (hkF)) (HXb.out _ (hkF)) (HXd.out _ (hkF))) (fun hHeld => ?_)
              clear hK K
              try simp only [Act.put, List.setIfInBounds_toArray, List.set_cons_zero, List.set_cons_succ]
              refine wpAnyH_ready (rs := [31]) (by kernel_rfl) (by simp) ?_
              refine AllReadyH.cons (o := _) rfl (fun K hK => ?_) AllReadyH.nil
              go_simp
              refine hK.out _ _ (sixteen (HROWc.out _ (hkF)) (HXa.out _ (hkF)) (HXb.out _ (hkF)) (HXd.out _ (hkF))) (fun hHeld => ?_)
              clear hK K
              try simp only [Act.put, List.setIfInBounds_toArray, List.set_cons_zero, List.set_cons_succ]
              refine wpAnyH_ready (rs := [32]) (by kernel_rfl) (by simp) ?_
              refine AllReadyH.cons (o := _) rfl (fun K hK => ?_) AllReadyH.nil
              go_simp
              refine hK.out _ _ (sixteen (HROWc.out _ (hkF)) (HXa.out _ (hkF)) (HXb.out _ (hkF)) (HXd.out _ (hkF))) (fun hHeld => ?_)
              clear hK K
              try simp only [Act.put, List.setIfInBounds_toArray, List.set_cons_zero, List.set_cons_succ]
              refine wpAnyH_done (by kernel_rfl) ?_ _
              have HE := Lib.hid hkF
              clear hkF
              go_wp2_with fail
              go_ret
              exact ⟨rfl, bk_tr HKc.out HE.out⟩
end Go.Proofs.YtmejiiebeknbjaaDoor
