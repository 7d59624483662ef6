/- ParseUint at base 16, of hexadecimal digits. -/
import Derived.Test.YtneidfbgdgegjaaGreatDoorDF
import Derived.Lib.Strings
import Derived.Lib.Walk
import Derived.Lib.ConvBytes
import Derived.Lib.AtoiAllMem
import Derived.Laws.Strings3
import Derived.Laws.Closers25
import Derived.Laws.Closers25b
import Derived.BigCall
import Derived.BigGuard
namespace Go.Proofs.YtneidfbgdgegjaaGreatDoor
open Go.Shelf Go.RowKit
set_option linter.unusedVariables false
set_option linter.unusedSimpArgs false
def pu16 : Nat → List UInt8 → Lib.NumEnd Nat
  | acc, [] => .ok acc
  | acc, c :: r => if 1152921504606846976 ≤ acc then .range else pu16 (16 * acc + dgv c) r
theorem pu16_vl : ∀ (l : List UInt8) (a : Nat), a < 18446744073709551616 → l.all isHex = true → pu16 a l = if vl 16 a l < 18446744073709551616 then .ok (vl 16 a l) else .range
  | [], a, ha, _ => by show Lib.NumEnd.ok a = if a < 18446744073709551616 then _ else _; rw [if_pos ha]; rfl
  | c :: r, a, ha, h => by
    obtain ⟨hc, hr⟩ : isHex c = true ∧ r.all isHex = true := by simpa using h
    have hd : dgv c < 16 := dgv_lt (.inr rfl) (by unfold pb; rw [if_pos rfl]; exact hc)
    show (if 1152921504606846976 ≤ a then Lib.NumEnd.range else pu16 (16 * a + dgv c) r) = if vl 16 (16 * a + dgv c) r < 18446744073709551616 then .ok (vl 16 (16 * a + dgv c) r) else .range
    have hg := vl_ge 16 (by omega) r (16 * a + dgv c)
    by_cases h1 : 1152921504606846976 ≤ a
    · rw [if_pos h1, if_neg (by omega)]
    · rw [if_neg h1]
      exact pu16_vl r _ (by omega) hr
theorem or32 {n : Nat} (h : 97 ≤ n ∧ n ≤ 102) : bits .or .u8 (n : Int) 32 = (n : Int) := by
  obtain ⟨h1, h2⟩ := h
  have : n = 97 ∨ n = 98 ∨ n = 99 ∨ n = 100 ∨ n = 101 ∨ n = 102 := by omega
  rcases this with rfl | rfl | rfl | rfl | rfl | rfl <;> rfl
set_option maxHeartbeats 32000000 in
set_option maxRecDepth 100000 in
theorem pu40 (t : ByteArray) (hne : t.size ≠ 0) (hmax : t.size ≤ 9223372036854775806) (hall : t.data.toList.all isHex = true) (w : World) :
    Calls Tryz.prog 143 #[.string t, .int .i64 16, .int .i64 64] w fun e w' => e = .returned (Lib.uintTuple 164 (pu16 0 t.data.toList)) ∧ w' = Lib.bytesWorld w 5 t := by
  have hemp : t.toList.isEmpty = false := by
    rw [← decide_eq_emptyBytes]
    exact decide_eq_false (fun h => hne (by rw [h]; rfl))
  have hcv := Lib.run_convert_string_bytes (P := Tryz.prog) w 9 54 5 t (u := .string) Tryz.underlying9 Tryz.underlying54 Tryz.underlying5
  have hB : ∀ j, j < t.size → (Lib.bytesWorld w 5 t).cell? ⟨w.heap.size, j, none⟩ = some (.int .u8 (t.data.toList.getD j 0).toNat) := fun j hj => Lib.bytesWorld_cell w 5 t j hj
  obtain ⟨W1, hW1⟩ : ∃ W1, W1 = Lib.bytesWorld w 5 t := ⟨_, rfl⟩
  rw [← hW1] at hcv hB ⊢
  clear hW1
  obtain ⟨bs, hL⟩ : ∃ bs, bs = t.data.toList := ⟨_, rfl⟩
  have hLn : bs.length = t.size := by rw [hL, Lib.size_eq]
  rw [← hL] at hB hall ⊢
  clear hL
  have HALL := Lib.hid hall
  clear hall
  have hmv : IntKind.u64.wrap (IntKind.u64.wrap 18446744073709551616 - 1) = 18446744073709551615 := by
    rw [IntKind.wrap_u64, IntKind.wrap_u64]
    decide
  go_enter Tryz.func143, Tryz.ntmps143
  go_wp2
  go_loop [12, 13, 101] (fun vu vn vi => ∃ (k acc : Nat) (a : Int), vu = .bool false ∧ vn = .int .u64 a ∧ vi = .int .i64 k ∧ k ≤ t.size ∧ Hid (a = (acc : Int) ∧ acc < 18446744073709551616 ∧ pu16 0 bs = pu16 acc (bs.drop k)))
    (fun _ _ vi => t.size - (intOf vi).toNat)
  case atStart => exact ⟨0, 0, 0, rfl, rfl, rfl, by omega, rfl, by omega, rfl⟩
  case round =>
    obtain ⟨k, acc, a, rfl, rfl, rfl, hk, hh⟩ := hrel
    obtain ⟨ha, hacc, hdec⟩ := hh.out
    clear hh
    have a0 : 0 ≤ a := by omega
    have a1 : a < 18446744073709551616 := by omega
    by_cases hkn : k < t.size
    · have hc := hB k hkn
      have hdrop : bs.drop k = bs[k]'(by omega) :: bs.drop (k + 1) := List.drop_eq_getElem_cons (by omega)
      have hget : bs.getD k 0 = bs[k]'(by omega) := by simp [List.getD, List.getElem?_eq_getElem (show k < bs.length by omega)]
      have hhex : isHex (bs[k]'(by omega)) = true := List.all_eq_true.1 HALL.out _ (List.getElem_mem _)
      rw [hdrop] at hdec
      rw [hget] at hc
      generalize bs[k]'(by omega) = c at hc hdec hhex
      have hc256 : c.toNat < 256 := c.toNat_lt
      have hhex := of_decide_eq_true hhex
      have hd : dgv c = if c.toNat ≤ 57 then c.toNat - 48 else c.toNat - 87 := rfl
      clear hB hdrop hget
      by_cases hcut : 1152921504606846976 ≤ acc
      · have hF : pu16 acc (c :: bs.drop (k + 1)) = .range := by simp [pu16, hcut]
        rw [hF] at hdec
        have icut : 1152921504606846976 ≤ a := by omega
        have HDEC := Lib.hid hdec
        clear hcut hacc hF ha hd hdec
        rcases hhex with hx | hx
        · obtain ⟨hx1, hx2⟩ := hx
          go_wp2
          go_ret2
          exact ⟨by rw [HDEC.out]; rfl, rfl⟩
        · have h32 := or32 hx
          obtain ⟨hx1, hx2⟩ := hx
          go_wp2_with (go_at_call 152; refine (Tryz.internal_strconv_lower _ _).mono ?_; rintro e w' ⟨rfl, rfl⟩)
          go_ret2
          exact ⟨by rw [HDEC.out]; rfl, rfl⟩
      · have hF : pu16 acc (c :: bs.drop (k + 1)) = pu16 (16 * acc + dgv c) (bs.drop (k + 1)) := by simp [pu16, hcut]
        have icut : a < 1152921504606846976 := by omega
        rcases hhex with hx | hx
        · obtain ⟨hx1, hx2⟩ := hx
          rw [if_pos hx2] at hd
          have HN : Hid (a * 16 + ((c.toNat : Int) - 48) = ((16 * acc + dgv c : Nat) : Int) ∧ 16 * acc + dgv c < 18446744073709551616 ∧ pu16 0 bs = pu16 (16 * acc + dgv c) (bs.drop (k + 1))) := Lib.hid ⟨by omega, by omega, hdec.trans hF⟩
          have iov : a * 16 + ((c.toNat : Int) - 48) < 18446744073709551616 := by omega
          clear hcut hacc hF hdec ha hd
          go_wp2
          refine ⟨⟨k + 1, 16 * acc + dgv c, a * 16 + ((c.toNat : Int) - 48), rfl, (by first | rfl | (congr 1; omega)), (by first | rfl | (congr 1; omega)), by omega, HN⟩, by simp [intOf]; omega⟩
        · have h32 := or32 hx
          obtain ⟨hx1, hx2⟩ := hx
          rw [if_neg (by omega)] at hd
          have HN : Hid (a * 16 + ((c.toNat : Int) - 97 + 10) = ((16 * acc + dgv c : Nat) : Int) ∧ 16 * acc + dgv c < 18446744073709551616 ∧ pu16 0 bs = pu16 (16 * acc + dgv c) (bs.drop (k + 1))) := Lib.hid ⟨by omega, by omega, hdec.trans hF⟩
          have iov : a * 16 + ((c.toNat : Int) - 97 + 10) < 18446744073709551616 := by omega
          clear hcut hacc hF hdec ha hd
          go_wp2_with (go_at_call 152; refine (Tryz.internal_strconv_lower _ _).mono ?_; rintro e w' ⟨rfl, rfl⟩)
          refine ⟨⟨k + 1, 16 * acc + dgv c, a * 16 + ((c.toNat : Int) - 97 + 10), rfl, (by first | rfl | (congr 1; omega)), (by first | rfl | (congr 1; omega)), by omega, HN⟩, by simp [intOf]; omega⟩
    · have hkk : k = t.size := by omega
      subst hkk
      have hF : pu16 acc (bs.drop t.size) = .ok acc := by rw [List.drop_eq_nil_of_le (by omega)]; rfl
      rw [hF] at hdec
      subst ha
      have HDEC := Lib.hid hdec
      clear hacc hF a0 a1 hdec
      go_wp2
      go_ret2
      exact ⟨by rw [HDEC.out]; rfl, rfl⟩
end Go.Proofs.YtneidfbgdgegjaaGreatDoor
