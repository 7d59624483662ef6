/- The reference's write, Dec, Hex, Int. -/
import Derived.Test.YtneidfbgdgegjaaGreatDoorDI
namespace Go.Proofs.YtneidfbgdgegjaaGreatDoor
open Go.RowKit
set_option linter.unusedVariables false
set_option linter.unusedSimpArgs false
theorem ex16 (d : Nat) (h : d < 16) : (⟨#[48, 49, 50, 51, 52, 53, 54, 55, 56, 57, 97, 98, 99, 100, 101, 102]⟩ : ByteArray).extract d (d + 1) = ⟨[hx d].toArray⟩ := by
  have : ∀ d : Fin 16, (⟨#[48, 49, 50, 51, 52, 53, 54, 55, 56, 57, 97, 98, 99, 100, 101, 102]⟩ : ByteArray).extract d.val (d.val + 1) = ⟨[hx d.val].toArray⟩ := by
    intro d
    apply bl_inj
    rw [bl_extract]
    revert d
    decide
  exact this ⟨d, h⟩
theorem ex16s (d : Nat) (h : d < 16) : ((⟨#[48, 49, 50, 51, 52, 53, 54, 55, 56, 57, 97, 98, 99, 100, 101, 102]⟩ : ByteArray).extract d (d + 1)).size = 1 := by rw [ex16 d h]; rfl
set_option maxRecDepth 100000 in
set_option maxHeartbeats 4000000 in
theorem write26_10 (u : Nat) (hu : u < 18446744073709551616) (w : World) : Calls Tryz.prog 91 #[.int .u64 (u : Int), .int .u64 10] w fun e w' => e = .returned (.string ⟨(wrn 10 u).toArray⟩) ∧ BK w w' := by
  have hex := ex16 (u % 10) (by omega)
  have hlen := wrn_len 10 u (.inl rfl) hu
  have HL := Lib.hid hlen
  have HU := Lib.hid hu
  clear hlen hu
  go_enter Tryz.func91, Tryz.ntmps91
  go_wp2_with fail
  go_region
  rw [hex]
  clear hex
  have HB0 := Lib.hid (bk_drew (BK.refl w))
  have HS := Lib.hid (show wrn 10 u = if u < 10 then [hx (u % 10)] else wrn 10 (u / 10) ++ [hx (u % 10)] by
    split
    · rename_i h; rw [wrn_lt h, Nat.mod_eq_of_lt h]
    · rename_i h; rw [wrn_ge (by omega) (by omega)])
  generalize w.drew = w1 at HB0 ⊢
  go_wp2_with fail
  go_loopw [0, 5] (fun a b W => ∃ (v : Nat) (D : List UInt8), a = .int .u64 (v : Int) ∧ b = .string ⟨D.toArray⟩ ∧ BK w W ∧ v ≤ u ∧ (wrn 10 u = if v < 10 then D else wrn 10 (v / 10) ++ D)) (fun a _ _ => (intOf a).toNat)
  case atStart => exact ⟨u, [hx (u % 10)], rfl, rfl, HB0.out, Nat.le_refl _, HS.out⟩
  case round =>
    obtain ⟨v, D, rfl, rfl, hb, hvu, hD⟩ := hrel
    have HBB := Lib.hid hb
    have hu := HU.out
    by_cases hlt : v < 10
    · rw [if_pos hlt] at hD
      have HD := Lib.hid hD
      have iv : (v : Int) < 10 := by omega
      clear hD hb
      go_wp2_with fail
      go_ret
      exact ⟨ret_str (by rw [← HD.out]), HBB.out⟩
    · rw [if_neg hlt] at hD
      have hDl : D.length ≤ 64 := by
        have h1 := HL.out
        rw [hD, List.length_append] at h1
        omega
      have HD := Lib.hid hD
      have iv : (10 : Int) ≤ (v : Int) := by omega
      have hm : v / 10 % 10 < 16 := by omega
      have hex := ex16 _ hm
      have hexs := ex16s _ hm
      have HN := Lib.hid (show wrn 10 u = if v / 10 < 10 then hx (v / 10 % 10) :: D else wrn 10 (v / 10 / 10) ++ hx (v / 10 % 10) :: D by
        rw [HD.out]
        split
        · rename_i h; rw [wrn_lt h, Nat.mod_eq_of_lt h]; rfl
        · rename_i h; rw [wrn_ge (by omega) (by omega), List.append_assoc]; rfl)
      have hsz2 : ¬ 9223372036854775807 < 1 + D.length := by omega
      have HNV := Lib.hid (show v / 10 ≤ u ∧ v / 10 < v by omega)
      have HBW := Lib.hid (bk_drew HBB.out)
      clear hD hb hm
      go_wp2_with fail
      go_region
      have HE := Lib.hid (show (⟨#[hx (v / 10 % 10)]⟩ : ByteArray) ++ ⟨D.toArray⟩ = ⟨(hx (v / 10 % 10) :: D).toArray⟩ from bl_inj (by rw [bl_app]; rfl))
      rw [HE.out]
      clear hex hexs
      go_wp2_with fail
      go_roundw
      case rel => exact ⟨v / 10, _, by first | rfl | (congr 1), rfl, HBW.out, HNV.out.1, HN.out⟩
      case measure => have := HNV.out.2; simp [intOf]; omega
set_option maxRecDepth 100000 in
set_option maxHeartbeats 4000000 in
theorem write26_16 (u : Nat) (hu : u < 18446744073709551616) (w : World) : Calls Tryz.prog 91 #[.int .u64 (u : Int), .int .u64 16] w fun e w' => e = .returned (.string ⟨(wrn 16 u).toArray⟩) ∧ BK w w' := by
  have hex := ex16 (u % 16) (by omega)
  have hlen := wrn_len 16 u (.inr rfl) hu
  have HL := Lib.hid hlen
  have HU := Lib.hid hu
  clear hlen hu
  go_enter Tryz.func91, Tryz.ntmps91
  go_wp2_with fail
  go_region
  rw [hex]
  clear hex
  have HB0 := Lib.hid (bk_drew (BK.refl w))
  have HS := Lib.hid (show wrn 16 u = if u < 16 then [hx (u % 16)] else wrn 16 (u / 16) ++ [hx (u % 16)] by
    split
    · rename_i h; rw [wrn_lt h, Nat.mod_eq_of_lt h]
    · rename_i h; rw [wrn_ge (by omega) (by omega)])
  generalize w.drew = w1 at HB0 ⊢
  go_wp2_with fail
  go_loopw [0, 5] (fun a b W => ∃ (v : Nat) (D : List UInt8), a = .int .u64 (v : Int) ∧ b = .string ⟨D.toArray⟩ ∧ BK w W ∧ v ≤ u ∧ (wrn 16 u = if v < 16 then D else wrn 16 (v / 16) ++ D)) (fun a _ _ => (intOf a).toNat)
  case atStart => exact ⟨u, [hx (u % 16)], rfl, rfl, HB0.out, Nat.le_refl _, HS.out⟩
  case round =>
    obtain ⟨v, D, rfl, rfl, hb, hvu, hD⟩ := hrel
    have HBB := Lib.hid hb
    have hu := HU.out
    by_cases hlt : v < 16
    · rw [if_pos hlt] at hD
      have HD := Lib.hid hD
      have iv : (v : Int) < 16 := by omega
      clear hD hb
      go_wp2_with fail
      go_ret
      exact ⟨ret_str (by rw [← HD.out]), HBB.out⟩
    · rw [if_neg hlt] at hD
      have hDl : D.length ≤ 64 := by
        have h1 := HL.out
        rw [hD, List.length_append] at h1
        omega
      have HD := Lib.hid hD
      have iv : (16 : Int) ≤ (v : Int) := by omega
      have hm : v / 16 % 16 < 16 := by omega
      have hex := ex16 _ hm
      have hexs := ex16s _ hm
      have HN := Lib.hid (show wrn 16 u = if v / 16 < 16 then hx (v / 16 % 16) :: D else wrn 16 (v / 16 / 16) ++ hx (v / 16 % 16) :: D by
        rw [HD.out]
        split
        · rename_i h; rw [wrn_lt h, Nat.mod_eq_of_lt h]; rfl
        · rename_i h; rw [wrn_ge (by omega) (by omega), List.append_assoc]; rfl)
      have hsz2 : ¬ 9223372036854775807 < 1 + D.length := by omega
      have HNV := Lib.hid (show v / 16 ≤ u ∧ v / 16 < v by omega)
      have HBW := Lib.hid (bk_drew HBB.out)
      clear hD hb hm
      go_wp2_with fail
      go_region
      have HE := Lib.hid (show (⟨#[hx (v / 16 % 16)]⟩ : ByteArray) ++ ⟨D.toArray⟩ = ⟨(hx (v / 16 % 16) :: D).toArray⟩ from bl_inj (by rw [bl_app]; rfl))
      rw [HE.out]
      clear hex hexs
      go_wp2_with fail
      go_roundw
      case rel => exact ⟨v / 16, _, by first | rfl | (congr 1), rfl, HBW.out, HNV.out.1, HN.out⟩
      case measure => have := HNV.out.2; simp [intOf]; omega
theorem rdec10 (u : Nat) (hu : u < 18446744073709551616) (w : World) : Calls Tryz.prog 73 #[.int .u64 (u : Int)] w fun e w' => e = .returned (.string ⟨(wrn 10 u).toArray⟩) ∧ BK w w' := by
  have H := write26_10 u hu w
  clear hu
  go_enter Tryz.func73, Tryz.ntmps73
  go_wp2_with (go_at_call 91; refine H.mono ?_; rintro e w' ⟨rfl, hb⟩; have HB := Lib.hid hb; clear hb)
  go_ret
  exact ⟨rfl, HB.out⟩
set_option maxRecDepth 100000 in
set_option maxHeartbeats 4000000 in
theorem rint14 (n : Int) (hn : In64 n) (w : World) : Calls Tryz.prog 51 #[.int .i64 n] w fun e w' => e = .returned (.string ⟨(Lib.itoa n).toArray⟩) ∧ BK w w' := by
  obtain ⟨h0, h1⟩ := hn
  rw [itoa_wr]
  by_cases hneg : n < 0
  · rw [if_pos hneg]
    obtain ⟨u, rfl, hu1, hu2⟩ : ∃ u : Nat, n = -(u : Int) ∧ 1 ≤ u ∧ u ≤ 9223372036854775808 := ⟨n.natAbs, by omega, by omega, by omega⟩
    rw [show (-(u : Int)).natAbs = u by omega]
    have H := rdec10 u (by omega) w
    have hl := wrn_len 10 u (.inl rfl) (by omega)
    generalize wrn 10 u = L at H hl ⊢
    rw [show (u : Int) = -(-(u : Int) + 1) + 1 by omega] at H
    have hl2 : ¬ 9223372036854775807 < 1 + L.length := by omega
    have HE := Lib.hid (show (⟨#[45]⟩ : ByteArray) ++ ⟨L.toArray⟩ = ⟨(45 :: L).toArray⟩ from bl_inj (by rw [bl_app]; rfl))
    go_enter Tryz.func51, Tryz.ntmps51
    go_wp2_with (go_at_call 73; refine H.mono ?_; rintro e w' ⟨rfl, hb⟩; have HB := Lib.hid hb; clear hb)
    go_ret
    exact ⟨ret_str HE.out, HB.out⟩
  · rw [if_neg hneg]
    obtain ⟨u, rfl, hu2⟩ : ∃ u : Nat, n = (u : Int) ∧ u < 9223372036854775808 := ⟨n.toNat, by omega, by omega⟩
    rw [show ((u : Int)).toNat = u by omega]
    have H := rdec10 u (by omega) w
    have e1 : IntKind.u64.wrap (u : Int) = (u : Int) := by rw [IntKind.wrap_u64]; omega
    go_enter Tryz.func51, Tryz.ntmps51
    go_wp2_with (go_at_call 73; refine H.mono ?_; rintro e w' ⟨rfl, hb⟩; have HB := Lib.hid hb; clear hb)
    go_ret
    exact ⟨rfl, HB.out⟩
end Go.Proofs.YtneidfbgdgegjaaGreatDoor
