/- The law Long. -/
import Derived.Test.YtneidfbgdgegjaaGreatDoorWL
namespace Go.Proofs.YtneidfbgdgegjaaGreatDoor
open Go.RowKit
set_option linter.unusedVariables false
set_option linter.unusedSimpArgs false
theorem info5' : (Tryz.prog.info? 5).map (fun i => (i.zero, i.size, i.bytes)) = some (some (.int .u8 0), 1, 1) := by kernel_rfl
theorem make54 (n : Nat) (h : n ≤ 100000) (w : World) : (Instr.makeSlice 54 (.int .i64 (n : Int)) (.int .i64 (n : Int))).run Tryz.prog w = .ok (.slice (some ⟨w.heap.size, 0, none⟩) n n) (w.alloc (.cells (madeCells #[.int .u8 0] n) 5)) := by
  obtain ⟨i0, hi, hz0, hz1, hz2⟩ := info_parts info5'
  have hr := run_make (P := Tryz.prog) w 54 5 i0 (.int .u8 0) Tryz.underlying54 hi hz0 .i64 .i64 n n (by omega) (by omega) (by rw [hz2]; omega) (by omega)
  simp only [Int.toNat_natCast] at hr
  rw [hz1, Nat.mul_one] at hr
  exact hr
/-- the first k bytes are x -/
def Xr (w : World) (g n k : Nat) : Prop := ∃ cs : Array Value, cs.size = n ∧ w.heap[g]? = some (.cells cs 5 (0, 0)) ∧ ∀ j, j < n → cs[j]? = if j < k then some (.int .u8 120) else some (.int .u8 0)
theorem Xr.new (w : World) (n : Nat) : Xr (w.alloc (.cells (madeCells #[.int .u8 0] n) 5)) w.heap.size n 0 := by
  refine ⟨madeCells #[.int .u8 0] n, size_madeCells _ _, heap_alloc_new w _, fun j hj => ?_⟩
  rw [if_neg (by omega)]
  rw [Array.getElem?_eq_getElem (by rw [size_madeCells]; exact hj)]
  simp only [madeCells, Array.getElem_map, Array.getElem_range]
  have h2 : j % (#[Value.int .u8 0] : Array Value).size = 0 := by show j % 1 = 0; omega
  rw [h2]
  rfl
theorem Xr.set {w : World} {g n k : Nat} (h : Xr w g n k) : Xr (w.setCell ⟨g, k, none⟩ (.int .u8 120)) g n (k + 1) := by
  obtain ⟨cs, h1, h2, h3⟩ := h
  refine ⟨_, by rw [Array.size_setIfInBounds]; exact h1, heap_setCell_same w g k _ 5 _ h2, fun j hj => ?_⟩
  rw [Array.getElem?_setIfInBounds]
  by_cases e : k = j
  · rw [if_pos e, if_pos (by omega), if_pos (by omega)]
  · rw [if_neg e, h3 j hj]
    by_cases e2 : j < k
    · rw [if_pos e2, if_pos (by omega)]
    · rw [if_neg e2, if_neg (by omega)]
theorem Xr.c {w : World} {g n k : Nat} (h : Xr w g n k) (hk : k < n) : w.cell? ⟨g, k, none⟩ = some (.int .u8 0) := by
  obtain ⟨cs, h1, h2, h3⟩ := h
  rw [cell_of_row w g k _ 5 (0, 0) h2, h3 k hk, if_neg (by omega)]
theorem Xr.f {w : World} {g n k : Nat} (h : Xr w g n k) (j : Nat) : w.frozen? ⟨g, j, none⟩ = false := by
  obtain ⟨cs, h1, h2, h3⟩ := h
  exact frozen_of_row w g j _ 5 h2
def xL (n : Nat) : List UInt8 := List.replicate n 120
theorem Xr.conv {w : World} {g n : Nat} (h : Xr w g n n) : (convert 54 9 (.slice (some ⟨g, 0, none⟩) n n)).run Tryz.prog w = .ok (.string (sB (xL n))) w := by
  obtain ⟨cs, h1, h2, h3⟩ := h
  have hl : (xL n).length = n := by simp [xL]
  have h := run_convert_bytes_back (P := Tryz.prog) w 54 9 5 ⟨g, 0, none⟩ n (xL n) Tryz.underlying54 Tryz.underlying5 Tryz.underlying9 (fun j hj => by
    rw [hl] at hj
    rw [Lib.add_plain, cell_of_row w g (0 + j) _ 5 (0, 0) h2, Nat.zero_add, h3 j hj, if_pos hj]
    simp [xL])
  rw [hl] at h
  exact h
theorem headO_one (x : List UInt8) : headO [x] = none := rfl
theorem parse_x (n : Nat) (h0 : n ≠ 0) (h : n ≤ 65536) : parseT (bl (sB (xL n))) = ⟨0, 0, [], [], 1, 6⟩ := by
  have hl : (bl (sB (xL n))).length = n := by show (xL n).length = n; simp [xL]
  have hx : ∀ c ∈ xL n, c = 120 := fun c hc => (List.mem_replicate.1 hc).2
  have h1 : lns (bl (sB (xL n))) = [xL n] := by
    show lns (xL n) = [xL n]
    exact lns_end (by simp [xL, h0]) (fun c hc => by rw [hx c hc]; decide)
  have h2 : sp (xL n) = [xL n] := by
    rw [← spc32]
    exact spc_plain (fun c hc => by rw [hx c hc]; decide)
  unfold parseT parseP
  rw [if_neg (by rw [hl]; omega), h1]
  have h3 : progP [xL n] = .bad 1 := by
    have h4 : headO (sp (xL n)) = none := by rw [h2]; rfl
    unfold progP
    simp only [h4]
  rw [h3]
  rfl
theorem parse_xx (n : Nat) (h : 65536 < n) : parseT (bl (sB (xL n))) = ⟨0, 0, [], [], 0, 7⟩ := by
  have hl : (bl (sB (xL n))).length = n := by show (xL n).length = n; simp [xL]
  unfold parseT
  rw [if_pos (by rw [hl]; exact h)]
theorem sB_size (n : Nat) : (sB (xL n)).size = n := by show (xL n).length = n; simp [xL]
theorem parse_a (n : Nat) (h0 : n ≠ 0) (h : n ≤ 65536) (w : World) (ht : Tb w) : Calls Tryz.prog 37 #[.string (sB (xL n))] w fun e w' => ∃ p q pc qc, e = .returned (.tuple #[.agg #[.int .i64 0, .int .i64 0, .slice p 0 pc, .slice q 0 qc], .int .i64 1, .int .i64 6]) ∧ BK w w' := by
  have h := parse37 (sB (xL n)) (by rw [sB_size]; omega) w ht
  rw [parse_x n h0 (by assumption)] at h
  refine h.mono ?_
  rintro e w' ⟨p, q, pc, qc, rfl, -, -, hb⟩
  exact ⟨p, q, pc, qc, rfl, hb⟩
theorem parse_b (n : Nat) (h : 65536 < n) (hn : n ≤ 70000) (w : World) (ht : Tb w) : Calls Tryz.prog 37 #[.string (sB (xL n))] w fun e w' => ∃ p q pc qc, e = .returned (.tuple #[.agg #[.int .i64 0, .int .i64 0, .slice p 0 pc, .slice q 0 qc], .int .i64 0, .int .i64 7]) ∧ BK w w' := by
  have h := parse37 (sB (xL n)) (by rw [sB_size]; omega) w ht
  rw [parse_xx n (by assumption)] at h
  refine h.mono ?_
  rintro e w' ⟨p, q, pc, qc, rfl, -, -, hb⟩
  exact ⟨p, q, pc, qc, rfl, hb⟩
theorem rem4 (n : Nat) (hn : n < 256) : ∃ L : Nat, L = 65535 + n % 4 ∧ 65535 ≤ L ∧ L ≤ 65538 := ⟨_, rfl, by omega, by omega⟩
set_option maxRecDepth 100000 in
set_option maxHeartbeats 4000000 in
theorem long_law (n : Nat) (hn : n < 256) (w : World) (ht : Tb w) : Calls Tryz.prog 9 #[.int .u8 (n : Int)] w fun e w' => e = .returned (.bool true) ∧ BK w w' := by
  have HT := Lib.hid ht
  have LV := Lib.hid (fun wc (hb : BK w wc) => live10 wc (ht.keep hb))
  clear ht
  go_enter Tryz.func9, Tryz.ntmps9
  go_wp2_with fail
  obtain ⟨L, hL, hl1, hl2⟩ := rem4 n hn
  rw [show (65535 + (n : Int) % 4) = ((L : Nat) : Int) from by omega]
  have HN := Lib.hid (And.intro hl1 hl2)
  have MK := Lib.hid (fun w => make54 L (by omega) w)
  clear hL hl1 hl2
  rw [MK.out w]
  simp only [Result.andThen]
  try rw [Oper.upon_value]
  have K3 := Lib.hid (bk_alloc (BK.refl w) (.cells (madeCells #[.int .u8 0] L) 5))
  have Z3 := Lib.hid (Xr.new w L)
  generalize w.alloc (.cells (madeCells #[.int .u8 0] L) 5) = w3 at *
  clear MK
  go_wp2_with fail
  go_loopw [4] (fun iv wr => ∃ k : Nat, k ≤ L ∧ iv = .int .i64 (k : Int) ∧ Xr wr w.heap.size L k ∧ BK w wr) (fun iv _ => L - (intOf iv).toNat)
  case atStart => exact ⟨0, Nat.zero_le _, rfl, Z3.out, K3.out⟩
  case round =>
    obtain ⟨k, hk, rfl, hz, hb⟩ := hrel
    have ZZ := Lib.hid hz
    have KB := Lib.hid hb
    clear hz hb Z3 K3
    by_cases e : k = L
    · have hd : decide (k < L) = false := by simp [e]
      subst e
      have CV := Lib.hid ZZ.out.conv
      by_cases h6 : 65536 < k
      · have CC := Lib.hid (parse_b k h6 (by have := HN.out; omega) wr (HT.out.keep KB.out))
        have h6' : (65536 : Int) < (k : Int) := by omega
        clear h6
        go_upto_region 6 with (fail)
        go_wp2_with fail
        rw [CV.out]
        simp only [Result.andThen]
        try rw [Oper.upon_value]
        go_wp2_with fail
        refine CC.out.mono ?_
        rintro e w4 ⟨p4, q4, pc4, qc4, rfl, hb4⟩
        have K4 := Lib.hid (bk_tr KB.out (bk_tr hb4 (bk_alloc (BK.refl w4) (.cells #[.int .i64 0, .int .i64 0, .slice p4 0 pc4, .slice q4 0 qc4] 34))))
        have N4 := Lib.hid (show C4 (w4.alloc (.cells #[.int .i64 0, .int .i64 0, .slice p4 0 pc4, .slice q4 0 qc4] 34)) w4.heap.size 0 0 (.slice p4 0 pc4) (.slice q4 0 qc4) from heap_alloc_new w4 _)
        clear hb4 CV ZZ
        go_upto_region 7 with (fail)
        generalize w4.alloc (.cells #[.int .i64 0, .int .i64 0, .slice p4 0 pc4, .slice q4 0 qc4] 34) = w5 at K4 N4 ⊢
        obtain ⟨c0, c1, c2, c3⟩ := N4.out.b4
        have D := Lib.hid (LV.out _ K4.out)
        go_wp2_with fail
        refine D.out.mono ?_
        rintro e w6 ⟨rfl, hb6⟩
        have K6 := Lib.hid (bk_tr K4.out hb6)
        clear hb6
        go_wp2_with fail
        go_ret
        exact ⟨rfl, K6.out⟩
      · have CC := Lib.hid (parse_a k (by have := HN.out; omega) (by omega) wr (HT.out.keep KB.out))
        have h6' : ¬ (65536 : Int) < (k : Int) := by omega
        clear h6
        go_upto_region 6 with (fail)
        go_wp2_with fail
        rw [CV.out]
        simp only [Result.andThen]
        try rw [Oper.upon_value]
        go_wp2_with fail
        refine CC.out.mono ?_
        rintro e w4 ⟨p4, q4, pc4, qc4, rfl, hb4⟩
        have K4 := Lib.hid (bk_tr KB.out (bk_tr hb4 (bk_alloc (BK.refl w4) (.cells #[.int .i64 0, .int .i64 0, .slice p4 0 pc4, .slice q4 0 qc4] 34))))
        have N4 := Lib.hid (show C4 (w4.alloc (.cells #[.int .i64 0, .int .i64 0, .slice p4 0 pc4, .slice q4 0 qc4] 34)) w4.heap.size 0 0 (.slice p4 0 pc4) (.slice q4 0 qc4) from heap_alloc_new w4 _)
        clear hb4 CV ZZ
        go_upto_region 7 with (fail)
        generalize w4.alloc (.cells #[.int .i64 0, .int .i64 0, .slice p4 0 pc4, .slice q4 0 qc4] 34) = w5 at K4 N4 ⊢
        obtain ⟨c0, c1, c2, c3⟩ := N4.out.b4
        have D := Lib.hid (LV.out _ K4.out)
        go_wp2_with fail
        refine D.out.mono ?_
        rintro e w6 ⟨rfl, hb6⟩
        have K6 := Lib.hid (bk_tr K4.out hb6)
        clear hb6
        go_wp2_with fail
        go_ret
        exact ⟨rfl, K6.out⟩
    · have hlt : k < L := by omega
      have hd : decide (k < L) = true := by simpa using hlt
      have HLT := Lib.hid hlt
      have ei : IntKind.i64.wrap ((k : Int) + 1) = (k : Int) + 1 := by have := HN.out; exact IntWalk.i64_in _ (by omega)
      have hki : (k : Int) < (L : Int) := by omega
      have c0 := ZZ.out.c hlt
      have f0 := ZZ.out.f k
      have Z4 := Lib.hid ZZ.out.set
      have K4 := Lib.hid (bk_set KB.out ⟨w.heap.size, k, none⟩ (.int .u8 120) (Nat.le_refl _))
      clear e ZZ KB
      go_wp2_with fail
      go_roundw
      case rel => exact ⟨k + 1, by have := HLT.out; omega, by go_num, Z4.out, K4.out⟩
      case measure => have := HLT.out; simp [intOf]; omega
end Go.Proofs.YtneidfbgdgegjaaGreatDoor
