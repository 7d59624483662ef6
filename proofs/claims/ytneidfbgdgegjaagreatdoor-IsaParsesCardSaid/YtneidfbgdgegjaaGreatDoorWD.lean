/- Lines of a text: writeLine. -/
import Derived.Test.YtneidfbgdgegjaaGreatDoorWA
namespace Go.Proofs.YtneidfbgdgegjaaGreatDoor
open Go.RowKit
set_option linter.unusedVariables false
set_option linter.unusedSimpArgs false
theorem joinTail_tl : ∀ r : List (List UInt8), Lib.joinTail [32] r = tl32 r
  | [] => rfl
  | x :: r => by
    have ih := joinTail_tl r
    unfold Lib.joinTail at *
    rw [List.map_cons, List.flatten_cons, ih]
    rfl
theorem join_jn (xs : List (List UInt8)) (h : xs ≠ []) : Lib.join xs [32] = jn xs := by
  cases xs with
  | nil => exact absurd rfl h
  | cons x r => rw [Lib.join_cons, joinTail_tl]; rfl
theorem maps_bl (xs : List (List UInt8)) : (xs.map sB).map (·.data.toList) = xs := by
  rw [List.map_map]
  conv => rhs; rw [← List.map_id xs]
  apply List.map_congr_left
  intro x _
  rfl
/-- strings.Join of a row that lies there -/
theorem join69 (xs : List (List UInt8)) (hx : xs ≠ []) (hl : xs.length ≤ 1000000) (hj : (jn xs).length ≤ 900000) (p : Option Addr) (c B : Nat) (w : World) (ho : w.ownsRow B 9 1 (.slice p xs.length c) xs.length (strs xs)) : Calls Tryz.prog 69 #[.slice p xs.length c, .string ⟨#[32]⟩] w fun e w' => e = .returned (.string (sB (jn xs))) ∧ BK w w' := by
  rcases Joins.ownsRow_forms ho with ⟨hv, h0⟩ | ⟨g, cap, hv⟩
  · exact absurd (List.eq_nil_of_length_eq_zero h0) hx
  · simp only [Value.slice.injEq] at hv
    obtain ⟨rfl, _, rfl⟩ := hv
    have hc : c ≥ xs.length := by
      rcases ho.2 with ⟨hv, h0⟩ | ⟨g', cap', cur, hv, hb, hg, h1, h2, h3, h4⟩
      · cases hv
      · simp only [Value.slice.injEq] at hv
        obtain ⟨_, _, rfl⟩ := hv
        exact h1
    have J := Tryz.strings_Join g 0 c (xs.map sB) ⟨#[32]⟩ w (fun j x hj => by
      have hlt := (List.getElem?_eq_some_iff.1 hj).1
      rw [List.length_map] at hlt
      rw [Nat.zero_add, World.ownsRow.cellAt ho j (by omega)]
      unfold strs
      rw [List.getElem?_map] at hj ⊢
      rw [List.getElem?_eq_getElem hlt] at hj ⊢
      simp at hj ⊢
      exact hj) (ho.lt g rfl).2 (by simp; omega) (by simp; exact hc) (by rw [maps_bl, show (⟨#[32]⟩ : ByteArray).data.toList = [32] from rfl, join_jn xs hx]; omega)
    rw [List.length_map, maps_bl, show (⟨#[32]⟩ : ByteArray).data.toList = [32] from rfl, join_jn xs hx] at J
    exact J
set_option maxRecDepth 100000 in
set_option maxHeartbeats 4000000 in
theorem line46 (xs : List (List UInt8)) (hx : xs ≠ []) (hl : xs.length ≤ 1000000) (hj : (jn xs).length ≤ 900000) (p : Option Addr) (c B : Nat) (w : World) (ho : w.ownsRow B 9 1 (.slice p xs.length c) xs.length (strs xs)) (b : Nat) (x v : Value) (l : List UInt8) (h : BU w b x v l) (ha : adr b x) (hll : l.length + (jn xs).length ≤ 1000000) :
    Calls Tryz.prog 46 #[.pointer (some ⟨b, 0, none⟩), .slice p xs.length c] w fun e w' => e = .returned (.tuple #[]) ∧ ∃ v', BU w' b (.pointer (some ⟨b, 0, none⟩)) v' (l ++ lineP xs) ∧ Fr b w w' := by
  have J := Lib.hid (join69 xs hx hl hj p c B w ho)
  have H := Lib.hid h
  have HA := Lib.hid ha
  have HL := Lib.hid (show lineP xs = jn xs ++ [10] from rfl)
  generalize jn xs = t at J HL hj hll
  clear h ha ho hx hl
  generalize xs.length = n at J ⊢
  go_enter Tryz.func46, Tryz.ntmps46
  go_wp2_with fail
  refine J.out.mono ?_
  rintro e w1 ⟨rfl, b1⟩
  have B1 := Lib.hid b1
  have H1 := Lib.hid (show BU w1 b x v l from ⟨(bk_block b1 (Array.getElem?_eq_some_iff.1 H.out.h).1).trans H.out.h, own_below H.out.own b1⟩)
  clear b1 J
  have S := Lib.hid (str68 w1 b x v l H1.out HA.out (sB t) (by omega) (by show t.length ≤ _; omega))
  go_wp2_with fail
  refine S.out.mono ?_
  rintro e w2 ⟨rfl, v2, h2, f2⟩
  have H2 := Lib.hid h2
  have F2 := Lib.hid ((Fr.bk B1.out).trans f2)
  clear h2 f2 S
  have C := Lib.hid (byte70 w2 b _ v2 _ H2.out (.inr rfl) 10 (by rw [List.length_append]; show l.length + t.length ≤ _; omega))
  go_wp2_with fail
  refine C.out.mono ?_
  rintro e w3 ⟨rfl, v3, h3, s3⟩
  have H3 := Lib.hid h3
  have F3 := Lib.hid (F2.out.trans (Fr.step H2.out s3))
  clear h3 s3 C
  go_wp2_with fail
  go_end0
  refine ⟨rfl, v3, ?_, F3.out⟩
  rw [HL.out, ← List.append_assoc]
  exact H3.out
end Go.Proofs.YtneidfbgdgegjaaGreatDoor
