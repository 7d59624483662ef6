/- A long list of refl steps. -/
import Derived.Test.YtnlpiaejfmdckaaDoorO
namespace Go.Proofs.YtnlpiaejfmdckaaDoor
open Go.RowKit
set_option linter.unusedVariables false
set_option linter.unusedSimpArgs false
def tZ : T := .mk 0 0 0 ⟨#[]⟩ []
def sR : S := ⟨1, [], 0, [], tZ, tZ⟩
def qZ : Pt := ⟨none, 0, none, 0, none, 0, none, 0⟩
theorem make27 (n : Nat) (h : n ≤ 100000) (w : World) : (Instr.makeSlice 27 (.int .i64 (n : Int)) (.int .i64 (n : Int))).run Tryd.prog w = .ok (.slice (some ⟨w.heap.size, 0, none⟩) n n) (w.alloc (.cells (madeCells zS (n * 14)) 44)) := by
  obtain ⟨i0, hi, hz0, hz1, hz2⟩ := info_parts info44
  have hr := run_make (P := Tryd.prog) w 27 44 i0 (.agg zS) Tryd.underlying27 hi hz0 .i64 .i64 n n (by omega) (by omega) (by rw [hz2]; omega) (by omega)
  simp only [Int.toNat_natCast] at hr
  rw [hz1] at hr
  exact hr
/-- a list of steps whose first k are refl -/
def Zr (w : World) (g n k : Nat) : Prop := ∃ cs : Array Value, cs.size = n * 14 ∧ w.heap[g]? = some (.cells cs 44 (0, 0)) ∧ ∀ j, j < n → ∀ r, r < 14 → cs[j * 14 + r]? = if r = 0 ∧ j < k then some (.int .i64 1) else zS[r]?
theorem zs_size : zS.size = 14 := rfl
theorem Zr.new (w : World) (n : Nat) : Zr (w.alloc (.cells (madeCells zS (n * 14)) 44)) w.heap.size n 0 := by
  refine ⟨madeCells zS (n * 14), size_madeCells _ _, heap_alloc_new w _, fun j hj r hr => ?_⟩
  rw [if_neg (by omega)]
  have h1 : j * 14 + r < n * 14 := by omega
  have h2 : (j * 14 + r) % zS.size = r := by rw [zs_size]; omega
  rw [Array.getElem?_eq_getElem (by rw [size_madeCells]; exact h1)]
  simp only [madeCells, Array.getElem_map, Array.getElem_range, h2]
  rw [getElem!_pos zS r (by rw [zs_size]; exact hr), Array.getElem?_eq_getElem (by rw [zs_size]; exact hr)]
theorem Zr.set {w : World} {g n k : Nat} (h : Zr w g n k) : Zr (w.setCell ⟨g, k * 14, none⟩ (.int .i64 1)) g n (k + 1) := by
  obtain ⟨cs, h1, h2, h3⟩ := h
  refine ⟨_, by rw [Array.size_setIfInBounds]; exact h1, heap_setCell_same w g (k * 14) _ 44 _ h2, fun j hj r hr => ?_⟩
  rw [Array.getElem?_setIfInBounds]
  by_cases e : k * 14 = j * 14 + r
  · rw [if_pos e, if_pos (by omega), if_pos (by omega)]
  · rw [if_neg e, h3 j hj r hr]
    by_cases e2 : r = 0 ∧ j < k
    · rw [if_pos e2, if_pos (by omega)]
    · rw [if_neg e2, if_neg (by omega)]
theorem Zr.c {w : World} {g n k : Nat} (h : Zr w g n k) (hk : k < n) : w.cell? ⟨g, k * 14, none⟩ = some (.int .i64 0) := by
  obtain ⟨cs, h1, h2, h3⟩ := h
  rw [cell_of_row w g (k * 14) _ 44 (0, 0) h2]
  have := h3 k hk 0 (by omega)
  rw [Nat.add_zero] at this
  rw [this, if_neg (by omega)]
  rfl
theorem Zr.f {w : World} {g n k : Nat} (h : Zr w g n k) (j : Nat) : w.frozen? ⟨g, j, none⟩ = false := by
  obtain ⟨cs, h1, h2, h3⟩ := h
  exact frozen_of_row w g j _ 44 h2
theorem Zr.lt {w : World} {g n k : Nat} (h : Zr w g n k) : g < w.heap.size := by
  obtain ⟨cs, h1, h2, h3⟩ := h
  exact (Array.getElem?_eq_some_iff.1 h2).1
theorem cR_get : ∀ r, r < 14 → (if r = 0 then some (.int .i64 1) else zS[r]?) = (cS sR qZ)[r]?
  | 0, _ => rfl | 1, _ => rfl | 2, _ => rfl | 3, _ => rfl | 4, _ => rfl | 5, _ => rfl | 6, _ => rfl | 7, _ => rfl
  | 8, _ => rfl | 9, _ => rfl | 10, _ => rfl | 11, _ => rfl | 12, _ => rfl | 13, _ => rfl
  | r + 14, h => by omega
theorem cR_size : (cS sR qZ).size = 14 := rfl
theorem Zr.row {w : World} {g n : Nat} (h : Zr w g n n) : RowS (mem 0 w) w (some ⟨g, 0, none⟩) n (List.replicate n sR) := by
  have hg := h.lt
  obtain ⟨cs, h1, h2, h3⟩ := h
  refine .inr ⟨g, 0, rfl, ⟨Nat.zero_le _, hg⟩, fun k hk => ?_, by simp⟩
  rw [List.length_replicate] at hk
  rw [List.getElem_replicate, Nat.zero_add]
  refine ⟨qZ, fun j v hj => ?_, ⟨.inl ⟨rfl, fun _ => rfl⟩, .inl ⟨rfl, fun _ => rfl⟩, .inl ⟨rfl, fun _ => rfl⟩, .inl ⟨rfl, fun _ => rfl⟩⟩⟩
  have hj14 : j < 14 := by have := (Array.getElem?_eq_some_iff.1 hj).1; rw [cR_size] at this; exact this
  rw [cell_of_row w g (k * 14 + j) _ 44 (0, 0) h2, h3 k hk j hj14]
  rw [← cR_get j hj14] at hj
  by_cases e : j = 0
  · rw [if_pos ⟨e, hk⟩]; rwa [if_pos e] at hj
  · rw [if_neg (by omega)]; rwa [if_neg e] at hj
theorem wellR (i : Nat) : wellB sR i = true := rfl
theorem fbR : ∀ (n i : Nat), fb i (List.replicate n sR) = (0, 0)
  | 0, i => rfl
  | n + 1, i => by rw [List.replicate_succ, fb_cons, if_pos (wellR i)]; exact fbR n (i + 1)
theorem chkR (n : Nat) (hn : n ≠ 0) : chk (List.replicate n sR) = if 65536 < n then (0, 7) else (0, 0) := by
  unfold chk
  rw [List.length_replicate, fbR, if_neg hn]
set_option maxRecDepth 100000 in
set_option maxHeartbeats 4000000 in
theorem checkR (n : Nat) (hn : n ≠ 0) (w : World) (g : Nat) (ht : Tb w) (hp : Zr w g n n) : Calls Tryd.prog 14 #[.slice (some ⟨g, 0, none⟩) n n] w fun e w' => e = .returned (.tuple #[.int .i64 0, .int .i64 (if 65536 < n then 7 else 0)]) ∧ BK w w' := by
  have h := check14 (List.replicate n sR) (fun s hs => by rw [List.eq_of_mem_replicate hs]; show (0 : Nat) ≤ _; omega) w (some ⟨g, 0, none⟩) n ht hp.row
  rw [chkR n hn, List.length_replicate] at h
  by_cases e : 65536 < n
  · rw [if_pos e] at h ⊢; exact h
  · rw [if_neg e] at h ⊢; exact h
theorem rem4 (n : Nat) (hn : n < 256) : ∃ L : Nat, L = 65535 + n % 4 ∧ 65535 ≤ L ∧ L ≤ 65538 := ⟨_, rfl, by omega, by omega⟩
set_option maxRecDepth 100000 in
set_option maxHeartbeats 4000000 in
theorem long_law (n : Nat) (hn : n < 256) (w : World) (ht : Tb w) : Calls Tryd.prog 5 #[.int .u8 (n : Int)] w fun e w' => e = .returned (.bool true) ∧ BK w w' := by
  have HT := Lib.hid ht
  have LV := Lib.hid (fun wc (hb : BK w wc) => lives12 wc (ht.bk hb))
  clear ht
  go_enter Tryd.func5, Tryd.ntmps5
  go_wp2_with fail
  obtain ⟨L, hL, hl1, hl2⟩ := rem4 n hn
  rw [show (65535 + (n : Int) % 4) = ((L : Nat) : Int) from by omega]
  have HN := Lib.hid (And.intro hl1 hl2)
  have MK := Lib.hid (fun w => make27 L (by omega) w)
  clear hL hl1 hl2
  rw [MK.out w]
  simp only [Result.andThen]
  try rw [Oper.upon_value]
  have K3 := Lib.hid (bk_alloc (BK.refl w) (.cells (madeCells zS (L * 14)) 44))
  have Z3 := Lib.hid (Zr.new w L)
  have LT := Lib.hid (show ∀ w2 k, Zr w2 w.heap.size L k → w.heap.size < w2.heap.size from fun w2 k h => h.lt)
  generalize w.alloc (.cells (madeCells zS (L * 14)) 44) = w3 at *
  clear MK
  go_wp2_with fail
  go_loopw [5] (fun iv wr => ∃ k : Nat, k ≤ L ∧ iv = .int .i64 (k : Int) ∧ Zr wr w.heap.size L k ∧ BK w wr) (fun iv _ => L - (intOf iv).toNat)
  case atStart => exact ⟨0, Nat.zero_le _, rfl, Z3.out, K3.out⟩
  case round =>
    obtain ⟨k, hk, rfl, hz, hb⟩ := hrel
    have ZZ := Lib.hid hz
    have KB := Lib.hid hb
    clear hz hb Z3 K3
    by_cases e : k = L
    · have hd : decide (k < L) = false := by simp [e]
      have CC := Lib.hid (checkR L (by have := HN.out; omega) wr w.heap.size (HT.out.bk KB.out) (by rw [← e]; rw [← e] at ZZ; exact ZZ.out))
      subst e
      by_cases h6 : 65536 < k
      · have CC2 := Lib.hid (show Calls Tryd.prog 14 #[.slice (some ⟨w.heap.size, 0, none⟩) k k] wr (fun e w' => e = .returned (.tuple #[.int .i64 0, .int .i64 7]) ∧ BK wr w') from by have := CC.out; rwa [if_pos h6] at this)
        have h6' : ¬ (k : Int) ≤ 65536 := by omega
        have hd2 : decide ((k : Int) ≤ 65536) = false := decide_eq_false h6'
        clear CC h6
        go_wp2_with fail
        refine CC2.out.mono ?_
        rintro e w4 ⟨rfl, hb4⟩
        have K4 := Lib.hid (bk_tr KB.out hb4)
        have D12 := Lib.hid (LV.out _ K4.out)
        clear hb4
        go_wp2_with fail
        refine D12.out.mono ?_
        rintro e w5 ⟨rfl, hb5⟩
        have K5 := Lib.hid (bk_tr K4.out hb5)
        clear hb5
        go_wp2_with fail
        go_ret
        exact ⟨rfl, K5.out⟩
      · have CC2 := Lib.hid (show Calls Tryd.prog 14 #[.slice (some ⟨w.heap.size, 0, none⟩) k k] wr (fun e w' => e = .returned (.tuple #[.int .i64 0, .int .i64 0]) ∧ BK wr w') from by have := CC.out; rwa [if_neg h6] at this)
        have h6' : (k : Int) ≤ 65536 := by omega
        have hd2 : decide ((k : Int) ≤ 65536) = true := decide_eq_true h6'
        clear CC h6
        go_wp2_with fail
        refine CC2.out.mono ?_
        rintro e w4 ⟨rfl, hb4⟩
        have K4 := Lib.hid (bk_tr KB.out hb4)
        have D12 := Lib.hid (LV.out _ K4.out)
        clear hb4
        go_wp2_with fail
        refine D12.out.mono ?_
        rintro e w5 ⟨rfl, hb5⟩
        have K5 := Lib.hid (bk_tr K4.out hb5)
        clear hb5
        go_wp2_with fail
        go_ret
        exact ⟨rfl, K5.out⟩
    · have hlt : k < L := by omega
      have hd : decide (k < L) = true := by simpa using hlt
      have HLT := Lib.hid hlt
      have ei : IntKind.i64.wrap ((k : Int) + 1) = (k : Int) + 1 := by have := HN.out; exact IntWalk.i64_in _ (by omega)
      have hki : (k : Int) < (L : Int) := by omega
      have c0 := ZZ.out.c hlt
      have f0 := ZZ.out.f (k * 14)
      have Z4 := Lib.hid ZZ.out.set
      have K4 := Lib.hid (bk_set KB.out ⟨w.heap.size, k * 14, none⟩ (.int .i64 1) (Nat.le_refl _))
      clear e ZZ KB
      go_wp2_with fail
      go_roundw
      case rel => exact ⟨k + 1, by have := HLT.out; omega, by go_num, Z4.out, K4.out⟩
      case measure => have := HLT.out; simp [intOf]; omega
end Go.Proofs.YtnlpiaejfmdckaaDoor
