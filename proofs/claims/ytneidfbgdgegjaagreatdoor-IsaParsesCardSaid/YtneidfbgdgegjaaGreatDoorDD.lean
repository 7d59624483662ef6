/- The tables that stand; FormatUint at base 10. -/
import Derived.Test.YtneidfbgdgegjaaGreatDoorDC
import Derived.Test.YtneidfbgdgegjaaGreatDoorShelf
import Derived.Lib.AppendIntMem
namespace Go.Proofs.YtneidfbgdgegjaaGreatDoor
open Go.RowKit Go.Lib Go.Sort
set_option linter.unusedVariables false
set_option linter.unusedSimpArgs false
/-- the table of names -/
def nmA : Array Value := (nmT.map fun l => Value.string ⟨l.toArray⟩).toArray
/-- the tables and variables stand -/
structure Tb (w : World) : Prop where
  pow : Lib.TabIs Tryz.prog w "internal/strconv.uint64pow10" .u64 Lib.pow10Tab
  rng : ∃ tp p, w.cell? ⟨8, 0, none⟩ = some (.iface tp p)
  nms : ∃ t fr, w.heap[0]? = some (.cells nmA t fr)
theorem Tb.keep {w w' : World} (h : Tb w) (hb : BK w w') : Tb w' := by
  obtain ⟨tp, p, h3⟩ := h.rng
  exact ⟨(Lib.tabBelow_of_tabIs h.pow) w' hb, ⟨tp, p, cellBk h3 hb⟩, h.nms.elim fun t ht => ht.elim fun fr hf => ⟨t, fr, (bk_block hb (Array.getElem?_eq_some_iff.1 hf).1).trans hf⟩⟩
theorem bk_grow (w : World) (k : Nat) (os : Array Obj) : BK w (grow (w.drewN k) os) := Lib.below_grow w.heap.size w (Nat.le_refl _) k os
set_option maxHeartbeats 4000000 in
set_option maxRecDepth 100000 in
theorem fu37_10 (u : Nat) (hu64 : u < 18446744073709551616) (w : World) (ht : Tb w) :
    Calls Tryz.prog 104 #[.int .u64 u, .int .i64 10] w fun e w' => e = .returned (.string ⟨(wrn 10 u).toArray⟩) ∧ BK w w' := by
  rw [wr10]
  have htab := ht.pow
  clear ht
  by_cases hs : u < 100
  · have iu : (u : Int) < 100 := by omega
    go_enter Tryz.func104, Tryz.ntmps104
    go_wp2_with (go_at_call 115; refine (Tryz.internal_strconv_small u hs _).mono ?_; rintro e w' ⟨rfl, rfl⟩)
    go_ret
    exact ⟨rfl, BK.refl _⟩
  · have hu1 : 1 ≤ u := by omega
    have hnd20 : Lib.nDigits u ≤ 20 := by have := Lib.numDigits_eq u hu1 hu64; split at this <;> omega
    have hal : Tryz.prog.arrayLen 140 = 24 := by simp [Program.arrayLen, Tryz.underlying140]
    have hsl : ∀ W, (Instr.sliceAt 140 (.pointer (some ⟨w.heap.size, 0, none⟩)) none (some (.int .i64 (Lib.nDigits u : Int))) none).run Tryz.prog W = .ok (.slice (some ⟨w.heap.size, 0, none⟩) (Lib.nDigits u) 24) W := fun W => by
      rw [run_sliceAt_array_h W 140 ⟨w.heap.size, 0, none⟩ (by simp [Program.arrayLen, Program.elem, Tryz.underlying140]) .i64 (Lib.nDigits u : Int) (by omega) (by rw [hal]; omega)]
      go_simp
    have hH0 := Lib.holds_zero0 w 140 (Lib.nDigits u) (by omega)
    have hfmt := Tryz.internal_strconv_formatBase10 w.heap.size 0 24 u (Array.replicate (Lib.nDigits u) 0) (w.alloc (.cells Lib.zeros24 140)) hH0 (by rw [Array.size_replicate]; exact Lib.lt_pow_nDigits u) hu64 (by rw [Array.size_replicate]; omega)
    rw [Array.size_replicate] at hfmt
    have HH0 := Lib.hid hH0
    have iu : (100 : Int) ≤ (u : Int) := by omega
    clear hH0 hal
    go_enter Tryz.func104, Tryz.ntmps104
    go_wp2_with (first
      | (go_at_call 116; refine (Tryz.internal_strconv_numDigits u hu1 hu64 _ (Lib.tabIs_alloc htab _)).mono ?_; rintro e w' ⟨rfl, rfl⟩))
    go_at_call 117
    refine hfmt.mono ?_
    rintro e w' ⟨rfl, k, v', dk, rfl, hF⟩
    have hcv : (convert 54 9 (.slice (some ⟨w.heap.size, 0, none⟩) (Lib.nDigits u) 24)).run Tryz.prog ((putRow (fun (b : UInt8) => Value.int .u8 (b.toNat : Int)) (w.alloc (.cells Lib.zeros24 140)) w.heap.size 0 dk).drewN k) = .ok (.string ⟨(Lib.decDigits u).toArray⟩) ((putRow (fun (b : UInt8) => Value.int .u8 (b.toNat : Int)) (w.alloc (.cells Lib.zeros24 140)) w.heap.size 0 dk).drewN k) := by
      have h := run_convert_bytes_back (P := Tryz.prog) ((putRow (fun (b : UInt8) => Value.int .u8 (b.toNat : Int)) (w.alloc (.cells Lib.zeros24 140)) w.heap.size 0 dk).drewN k) 54 9 5 ⟨w.heap.size, 0, none⟩ 24 (Lib.decDigits u) Tryz.underlying54 Tryz.underlying5 Tryz.underlying9 (fun j hj => by
        rw [Lib.row_is_numeral hF j hj, Lib.add_plain, World.cell?_drewN]
        exact cell?_putRow (fun (b : UInt8) => Value.int .u8 (b.toNat : Int)) _ w.heap.size 0 _ dk HH0.out (by rw [hF.size, Array.size_replicate]) j (by rw [hF.size]; rw [Lib.decDigits_length] at hj; exact hj))
      rw [Lib.decDigits_length] at h
      exact h
    obtain ⟨os, eo⟩ := Lib.fin_at w (.cells Lib.zeros24 140) dk k 0
    have HB : BK w ((putRow (fun (b : UInt8) => Value.int .u8 (b.toNat : Int)) (w.alloc (.cells Lib.zeros24 140)) w.heap.size 0 dk).drewN k) := by rw [eo]; exact bk_grow w k os
    have HB := Lib.hid HB
    clear eo HH0 hfmt
    generalize (putRow (fun (b : UInt8) => Value.int .u8 (b.toNat : Int)) (w.alloc (.cells Lib.zeros24 140)) w.heap.size 0 dk).drewN k = W2 at hcv HB ⊢
    go_wp2
    go_ret
    exact ⟨rfl, HB.out⟩
theorem grown_bk {w w' : World} (h : ∃ k os, w' = grow (w.drewN k) os) : BK w w' := by
  obtain ⟨k, os, rfl⟩ := h
  exact bk_grow w k os
set_option maxHeartbeats 1000000 in
theorem int13 (n : Int) (hn : In64 n) (w : World) (ht : Tb w) : Calls Tryz.prog 47 #[.int .i64 n] w fun e w' => e = .returned (.string ⟨(Lib.itoa n).toArray⟩) ∧ BK w w' := by
  have H := Tryz.strconv_Itoa n hn.1 hn.2 w ht.pow
  clear ht
  go_enter Tryz.func47, Tryz.ntmps47
  go_wp2_with (go_at_call 71; refine H.mono ?_; rintro e w' ⟨rfl, hg⟩; have HG := Lib.hid (grown_bk hg); clear hg)
  go_ret
  exact ⟨rfl, HG.out⟩
end Go.Proofs.YtneidfbgdgegjaaGreatDoor
