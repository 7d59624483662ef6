/- formatBits at base 16: the walk. -/
import Derived.Test.YtkdpbmbkpepelaaDoorE
namespace Go.Proofs.YtkdpbmbkpepelaaDoor
open Go.RowKit
set_option linter.unusedVariables false
set_option linter.unusedSimpArgs false
theorem ret_str {a b : ByteArray} (h : a = b) : Ending.returned (.string a) = .returned (.string b) := by rw [h]
/-- an array of 65 bytes, its last ones written -/
def R65 (w : World) (b i : Nat) (D : List UInt8) : Prop := ∃ cs : Array Value, w.heap[b]? = some (.cells cs 85 (0, 0)) ∧ cs.size = 65 ∧ i + D.length = 65 ∧ ∀ j (h : j < D.length), cs[i + j]? = some (.int .u8 (D[j].toNat : Int))
theorem R65.fr {w : World} {b i : Nat} {D : List UInt8} (h : R65 w b i D) (j : Nat) : w.frozen? ⟨b, j, none⟩ = false := by
  obtain ⟨cs, h1, _⟩ := h
  exact frozen_of_row w b j _ 85 h1
theorem R65.some {w : World} {b i : Nat} {D : List UInt8} (h : R65 w b i D) (j : Nat) (hj : j < 65) : ∃ v, w.cell? ⟨b, j, none⟩ = Option.some v := by
  obtain ⟨cs, h1, h2, _⟩ := h
  refine ⟨cs[j]'(by omega), ?_⟩
  rw [cell_of_row w b j _ 85 (0, 0) h1, Array.getElem?_eq_getElem (by omega)]
theorem R65.set {w : World} {b i : Nat} {D : List UInt8} (h : R65 w b (i + 1) D) (c : UInt8) : R65 (w.setCell ⟨b, i, none⟩ (.int .u8 (c.toNat : Int))) b i (c :: D) := by
  obtain ⟨cs, h1, h2, h3, h4⟩ := h
  refine ⟨cs.setIfInBounds i (.int .u8 (c.toNat : Int)), ?_, by simp [h2], by simp; omega, fun j hj => ?_⟩
  · rw [heap_setCell_same w b i _ 85 _ h1]
  · cases j with
    | zero => simp [Array.getElem?_setIfInBounds]; omega
    | succ j =>
      have hj' : j < D.length := by simpa using hj
      have := h4 j hj'
      rw [Array.getElem?_setIfInBounds, if_neg (by omega)]
      rw [show i + (j + 1) = i + 1 + j by omega]
      exact this
theorem R65.conv {w : World} {b i : Nat} {D : List UInt8} (h : R65 w b i D) : (convert 57 9 (.slice (Option.some ⟨b, i, none⟩) D.length D.length)).run Tryd.prog w = .ok (.string ⟨D.toArray⟩) w := by
  obtain ⟨cs, h1, h2, h3, h4⟩ := h
  exact run_convert_bytes_back (P := Tryd.prog) w 57 9 5 ⟨b, i, none⟩ D.length D Tryd.underlying57 Tryd.underlying5 Tryd.underlying9 (fun j hj => by
    rw [Lib.add_plain, cell_of_row w b (i + j) _ 85 (0, 0) h1]
    exact h4 j hj)
theorem R65.step {w : World} {b i : Nat} {D : List UInt8} {w0 : World} (h : BK w0 w) (hb : w0.heap.size ≤ b) (j : Nat) (v : Value) : BK w0 (w.setCell ⟨b, j, none⟩ v) := bk_set h _ _ hb
def dg36 : ByteArray := ⟨List.toArray (48 :: 49 :: 50 :: 51 :: 52 :: 53 :: 54 :: 55 :: 56 :: 57 :: 97 :: 98 :: 99 :: 100 :: 101 :: 102 :: 103 :: 104 :: 105 :: 106 :: 107 :: 108 :: 109 :: 110 :: 111 :: 112 :: 113 :: 114 :: 115 :: 116 :: 117 :: 118 :: 119 :: 120 :: 121 :: 122 :: [])⟩
theorem dg36_at : ∀ d : Fin 16, (dg36[d.val]'(by show d.val < 36; omega)) = hx d.val := by decide
theorem idx36 (d : Nat) (h : d < 16) (W : World) : (Instr.index 9 (.string ⟨List.toArray (48 :: 49 :: 50 :: 51 :: 52 :: 53 :: 54 :: 55 :: 56 :: 57 :: 97 :: 98 :: 99 :: 100 :: 101 :: 102 :: 103 :: 104 :: 105 :: 106 :: 107 :: 108 :: 109 :: 110 :: 111 :: 112 :: 113 :: 114 :: 115 :: 116 :: 117 :: 118 :: 119 :: 120 :: 121 :: 122 :: [])⟩) (.int .u64 (d : Int))).run Tryd.prog W = .ok (.int .u8 ((hx d).toNat : Int)) W := by
  refine (run_index_string W 9 dg36 .u64 (d : Int) Tryd.underlying9).trans ?_
  rw [dif_pos ⟨by omega, by show (d : Int) < 36; omega⟩]
  have h2 := congrArg (fun c : UInt8 => ((c.toNat : Nat) : Int)) (dg36_at ⟨d, h⟩)
  simp only [Int.toNat_natCast]
  exact congrArg (fun z => Result.ok (Value.int .u8 z) W) h2
theorem sl85 (w0 i : Nat) (h : i < 65) (W : World) : (Instr.sliceAt 85 (.pointer (some ⟨w0, 0, none⟩)) (some (.int .i64 (i : Int))) none none).run Tryd.prog W = .ok (.slice (some ⟨w0, i, none⟩) (65 - i) (65 - i)) W := by
  have hal : Tryd.prog.arrayLen 85 = 65 := by simp [Program.arrayLen, Tryd.underlying85]
  rw [run_sliceAt_array_l W 85 ⟨w0, 0, none⟩ (by simp [Program.arrayLen, Program.elem, Tryd.underlying85]) .i64 (i : Int) (by omega) (by rw [hal]; omega)]
  go_simp
  intro e
  omega
set_option maxHeartbeats 4000000 in
set_option maxRecDepth 100000 in
theorem fb49 (u : Nat) (hu64 : u < 18446744073709551616) (w : World) (ht : Tb w) :
    Calls Tryd.prog 49 #[.slice none 0 0, .int .u64 u, .int .i64 16, .bool false, .bool false] w fun e w' => e = .returned (.tuple #[.slice none 0 0, .string ⟨(wrn 16 u).toArray⟩]) ∧ BK w w' := by
  have HT := Lib.hid ht
  have HU := Lib.hid hu64
  clear ht hu64
  go_enter Tryd.func49, Tryd.ntmps49
  go_wp2_with (first | (go_at_call 66; refine (pt66 _).mono ?_; rintro e w' ⟨rfl, rfl⟩) | (go_at_call 67; refine (tz67 _ (cellBk HT.out.bru (bk_alloc (BK.refl w) _))).mono ?_; rintro e w' ⟨rfl, rfl⟩))
  have HR0 := Lib.hid (show R65 (w.alloc (.cells Tryd.zeroCells85 85)) w.heap.size 65 [] from
    ⟨_, heap_alloc_new w _, by rfl, rfl, fun j hj => by simp at hj⟩)
  have HB0 := Lib.hid (bk_alloc (BK.refl w) (.cells Tryd.zeroCells85 85))
  generalize w.alloc (.cells Tryd.zeroCells85 85) = w1 at HR0 HB0 ⊢
  have HA := Lib.hid (show wrn 16 u = wrn 16 u ++ [] by simp)
  go_loopw [1, 13] (fun a b W => ∃ (v i : Nat) (D : List UInt8), a = .int .u64 (v : Int) ∧ b = .int .i64 (i : Int) ∧ R65 W w.heap.size i D ∧ BK w W ∧ wrn 16 u = wrn 16 v ++ D ∧ D.length ≤ 15 ∧ v < 16 ^ (16 - D.length)) (fun a _ _ => (intOf a).toNat)
  case atStart => exact ⟨u, 65, [], rfl, rfl, HR0.out, HB0.out, HA.out, by simp, by have := HU.out; simpa using this⟩
  case round =>
    obtain ⟨v, i, D, rfl, rfl, hR, hB, hD, hl, hv⟩ := hrel
    have il : i + D.length = 65 := by obtain ⟨cs, _, _, h3, _⟩ := hR; exact h3
    have hv64 : v < 18446744073709551616 := by
      have h1 : 16 ^ (16 - D.length) ≤ 16 ^ 16 := Nat.pow_le_pow_right (by omega) (by omega)
      have h2 : (16 : Nat) ^ 16 = 18446744073709551616 := by decide
      omega
    have HRR := Lib.hid hR
    have HBB := Lib.hid hB
    have HDD := Lib.hid hD
    have HV := Lib.hid hv
    clear hR hB hD hv
    obtain ⟨i, rfl⟩ : ∃ j, i = j + 1 := ⟨i - 1, by omega⟩
    have ii : (i : Int) < 65 := by omega
    have ei : IntKind.i64.wrap (((i + 1 : Nat) : Int) - 1) = (i : Int) := by rw [IntKind.wrap_i64]; omega
    obtain ⟨v0, hc0⟩ := HRR.out.some i (by omega)
    have hf0 := HRR.out.fr i
    by_cases hge : v < 16
    · have iv : (v : Int) < 16 := by omega
      have hxx := idx36 v hge
      have HS := Lib.hid (HRR.out.set (hx v))
      have HSB := Lib.hid (bk_set HBB.out ⟨w.heap.size, i, none⟩ (.int .u8 ((hx v).toNat : Int)) (Nat.le_refl _))
      have hsl := sl85 w.heap.size i (by omega)
      have hcv := HS.out.conv
      have hlen : (hx v :: D).length = 65 - i := by simp; omega
      rw [hlen] at hcv
      have hfin : hx v :: D = wrn 16 u := by rw [HDD.out, wrn_lt hge]; rfl
      rw [hfin] at hcv
      clear hlen hfin
      go_wp2_with fail
      go_ret2
      exact ⟨rfl, HSB.out⟩
    · have iv : (16 : Int) ≤ (v : Int) := by omega
      have hand : bits .and .u64 (v : Int) 15 = ((v % 16 : Nat) : Int) := by
        rw [show (15 : Int) = ((15 : Nat) : Int) from rfl, Go.u64_and_nat v 15 hv64 (by omega), Nat.and_two_pow_sub_one_eq_mod (n := 4)]
      have hxx := idx36 (v % 16) (Nat.mod_lt _ (by omega))
      have HS := Lib.hid (HRR.out.set (hx (v % 16)))
      have HSB := Lib.hid (bk_set HBB.out ⟨w.heap.size, i, none⟩ (.int .u8 ((hx (v % 16)).toNat : Int)) (Nat.le_refl _))
      have HDN := Lib.hid (show wrn 16 u = wrn 16 (v / 16) ++ hx (v % 16) :: D by
        rw [HDD.out, wrn_ge (by omega) (by omega), List.append_assoc]; rfl)
      have HLN := Lib.hid (show (hx (v % 16) :: D).length ≤ 15 ∧ v / 16 < 16 ^ (16 - (hx (v % 16) :: D).length) by
        have h1 := HV.out
        have h2 : D.length < 15 := by
          rcases Nat.lt_or_ge D.length 15 with h | h
          · exact h
          · exfalso
            have : D.length = 15 := by omega
            rw [this] at h1
            have : (16 : Nat) ^ (16 - 15) = 16 := by decide
            omega
        refine ⟨by simp; omega, ?_⟩
        rw [List.length_cons, show 16 - (D.length + 1) = 15 - D.length by omega]
        rw [show 16 - D.length = (15 - D.length) + 1 by omega, Nat.pow_succ] at h1
        exact Nat.div_lt_of_lt_mul (by rw [Nat.mul_comm]; exact h1))
      rw [← dg36_at ⟨v % 16, Nat.mod_lt _ (by omega)⟩] at HS HSB HDN HLN
      have hm : v / 16 < v := Nat.div_lt_self (by omega) (by omega)
      clear hv64
      go_wp2_with fail
      go_roundw
      case rel => exact ⟨v / 16, i, _, by first | rfl | (congr 1; omega), by first | rfl | (congr 1; omega), HS.out, HSB.out, HDN.out, HLN.out.1, HLN.out.2⟩
      case measure => simp [intOf]; omega
set_option maxHeartbeats 2000000 in
theorem fu37_16 (u : Nat) (hu64 : u < 18446744073709551616) (w : World) (ht : Tb w) :
    Calls Tryd.prog 37 #[.int .u64 u, .int .i64 16] w fun e w' => e = .returned (.string ⟨(wrn 16 u).toArray⟩) ∧ BK w w' := by
  have H := fb49 u hu64 w ht
  clear ht
  go_enter Tryd.func37, Tryd.ntmps37
  go_wp2_with (go_at_call 49; refine H.mono ?_; rintro e w' ⟨rfl, hb⟩; have HB := Lib.hid hb; clear hb)
  go_ret
  exact ⟨rfl, HB.out⟩
theorem fu25 (b u : Nat) (hb : b = 10 ∨ b = 16) (hu64 : u < 18446744073709551616) (w : World) (ht : Tb w) :
    Calls Tryd.prog 25 #[.int .u64 u, .int .i64 (b : Int)] w fun e w' => e = .returned (.string ⟨(wrn b u).toArray⟩) ∧ BK w w' := by
  have H : Calls Tryd.prog 37 #[.int .u64 u, .int .i64 (b : Int)] w fun e w' => e = .returned (.string ⟨(wrn b u).toArray⟩) ∧ BK w w' := by
    rcases hb with rfl | rfl
    · exact fu37_10 u hu64 w ht
    · exact fu37_16 u hu64 w ht
  clear ht hu64
  go_enter Tryd.func25, Tryd.ntmps25
  go_wp2_with (go_at_call 37; refine H.mono ?_; rintro e w' ⟨rfl, hb⟩; have HB := Lib.hid hb; clear hb)
  go_ret
  exact ⟨rfl, HB.out⟩
theorem dec9 (u : Nat) (hu64 : u < 18446744073709551616) (w : World) (ht : Tb w) :
    Calls Tryd.prog 9 #[.int .u64 u] w fun e w' => e = .returned (.string ⟨(wrn 10 u).toArray⟩) ∧ BK w w' := by
  have H := fu25 10 u (.inl rfl) hu64 w ht
  rw [show ((10 : Nat) : Int) = 10 from rfl] at H
  clear ht hu64
  go_enter Tryd.func9, Tryd.ntmps9
  go_wp2_with (go_at_call 25; refine H.mono ?_; rintro e w' ⟨rfl, hb⟩; have HB := Lib.hid hb; clear hb)
  go_ret
  exact ⟨rfl, HB.out⟩
theorem wrn_le (b : Nat) (hb : 2 ≤ b) : ∀ (k u : Nat), u < b ^ (k + 1) → (wrn b u).length ≤ k + 1
  | 0, u, h => by rw [wrn_lt (by simpa using h)]; simp
  | k + 1, u, h => by
    by_cases hu : u < b
    · rw [wrn_lt hu]; simp
    · rw [wrn_ge hb (by omega), List.length_append]
      have := wrn_le b hb k (u / b) (Nat.div_lt_of_lt_mul (by rw [Nat.mul_comm, ← Nat.pow_succ]; exact h))
      simp; omega
theorem wrn_len (b u : Nat) (hb : b = 10 ∨ b = 16) (h : u < 18446744073709551616) : (wrn b u).length ≤ 64 := by
  refine wrn_le b (by omega) 63 u (Nat.lt_of_lt_of_le h ?_)
  rw [show (18446744073709551616 : Nat) = 2 ^ 64 by decide]
  exact Nat.pow_le_pow_left (by omega) 64
theorem hex11 (u : Nat) (hu64 : u < 18446744073709551616) (w : World) (ht : Tb w) :
    Calls Tryd.prog 11 #[.int .u64 u] w fun e w' => e = .returned (.string ⟨(48 :: 120 :: wrn 16 u).toArray⟩) ∧ BK w w' := by
  have H := fu25 16 u (.inr rfl) hu64 w ht
  rw [show ((16 : Nat) : Int) = 16 from rfl] at H
  have hl := wrn_len 16 u (.inr rfl) hu64
  clear ht hu64
  generalize wrn 16 u = L at H hl ⊢
  have hl2 : ¬ 9223372036854775807 < 2 + L.length := by omega
  have HE := Lib.hid (show (⟨#[48, 120]⟩ : ByteArray) ++ ⟨L.toArray⟩ = ⟨(48 :: 120 :: L).toArray⟩ from bl_inj (by rw [bl_app]; rfl))
  go_enter Tryd.func11, Tryd.ntmps11
  go_wp2_with (go_at_call 25; refine H.mono ?_; rintro e w' ⟨rfl, hb⟩; have HB := Lib.hid hb; clear hb)
  go_ret
  exact ⟨ret_str HE.out, HB.out⟩
end Go.Proofs.YtkdpbmbkpepelaaDoor
