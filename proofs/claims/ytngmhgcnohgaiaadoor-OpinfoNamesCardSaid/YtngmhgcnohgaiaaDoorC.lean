/- Contracts of Width and of its reference. -/
import Derived.Test.YtngmhgcnohgaiaaDoorB
namespace Go.Proofs.YtngmhgcnohgaiaaDoor
open Go.RowKit
set_option linter.unusedVariables false
/-- a slice of ints that reads as zs -/
def SlI (w : World) (sv : Value) (zs : List Int) : Prop :=
  (∃ a cap, sv = .slice a 0 cap ∧ zs = []) ∨ ∃ b off cap, sv = .slice (some ⟨b, off, none⟩) zs.length cap ∧ ∀ k, k < zs.length → w.cell? ⟨b, off + k, none⟩ = some (.int .i64 (zs.getD k 0))
theorem SlI.up {w w' : World} {sv : Value} {zs : List Int} (h : SlI w sv zs) (hu : Up w w') : SlI w' sv zs := by
  rcases h with h | ⟨b, off, cap, h1, h2⟩
  · exact Or.inl h
  · exact Or.inr ⟨b, off, cap, h1, fun k hk => hu.cell (h2 k hk)⟩
theorem arity0 {op : Int} (h : arity op = 0) : op = 1 ∨ op = 2 ∨ op = 24 ∨ op = 25 := by
  unfold arity at h; (repeat' split at h) <;> omega
theorem arity1 {op : Int} (h : arity op = 1) : op = 3 ∨ op = 4 ∨ (21 ≤ op ∧ op ≤ 23) ∨ op = 26 := by
  unfold arity at h; (repeat' split at h) <;> omega
theorem arity2 {op : Int} (h : arity op = 2) : (5 ≤ op ∧ op ≤ 18) ∨ op = 20 := by
  unfold arity at h; (repeat' split at h) <;> omega
theorem arity3 {op : Int} (h : arity op = 3) : op = 19 := by
  unfold arity at h; (repeat' split at h) <;> omega
theorem arity_le (op : Int) : -1 ≤ arity op ∧ arity op ≤ 3 := by
  unfold arity; (repeat' split) <;> omega
theorem len_cases (zs : List Int) (h : zs.length ≤ 3) : zs = [] ∨ (∃ a, zs = [a]) ∨ (∃ a b, zs = [a, b]) ∨ ∃ a b c, zs = [a, b, c] := by
  match zs, h with
  | [], _ => exact Or.inl rfl
  | [a], _ => exact Or.inr (Or.inl ⟨a, rfl⟩)
  | [a, b], _ => exact Or.inr (Or.inr (Or.inl ⟨a, b, rfl⟩))
  | [a, b, c], _ => exact Or.inr (Or.inr (Or.inr ⟨a, b, c, rfl⟩))
def allW (zs : List Int) : Bool := zs.all okW
theorem wov_any (op x v : Int) (sv : Value) (zs : List Int) (w : World) (h0 : 0 ≤ v) (hs : SlI w sv zs) (ha : arity op = zs.length) (hz : allW zs = true) :
    Calls Tryd.prog 15 #[.int .i64 op, .int .i64 x, .int .u64 v, sv] w fun e w' => e = .returned (.tuple #[.int .i64 (woV op x v zs).1, .bool (woV op x v zs).2]) ∧ Up w w' := by
  have hl : zs.length ≤ 3 := by have := (arity_le op).2; omega
  unfold allW at hz
  rcases len_cases zs hl with rfl | ⟨a, rfl⟩ | ⟨a, b, rfl⟩ | ⟨a, b, c, rfl⟩
  · exact wov0 op x v sv w h0 (arity0 (by simpa using ha))
  · rcases hs with ⟨_, _, _, h⟩ | ⟨bl, off, cap, rfl, hc⟩
    · cases h
    · have c0 := hc 0 (by simp)
      simp [okW_iff] at hz c0
      exact wov1 op x v a bl off cap w (arity1 (by simpa using ha)) hz h0 c0
  · rcases hs with ⟨_, _, _, h⟩ | ⟨bl, off, cap, rfl, hc⟩
    · cases h
    · have c0 := hc 0 (by simp)
      have c1 := hc 1 (by simp)
      simp [okW_iff] at hz c0 c1
      exact wov2 op x v a b bl off cap w (arity2 (by simpa using ha)) hz.1 hz.2 c0 c1
  · rcases hs with ⟨_, _, _, h⟩ | ⟨bl, off, cap, rfl, hc⟩
    · cases h
    · have c0 := hc 0 (by simp)
      have c1 := hc 1 (by simp)
      have c2 := hc 2 (by simp)
      simp at c0 c1 c2
      obtain rfl := arity3 (by simpa using ha)
      exact wov3 x v a b c bl off cap w c0 c1 c2
theorem allW_snoc (zs : List Int) (k : Nat) (hk : k < zs.length) (h1 : allW (zs.take k) = true) (h2 : okW zs[k] = true) : allW (zs.take (k + 1)) = true := by
  unfold allW at *; rw [List.take_succ_eq_append_getElem hk, List.all_append, h1]; simp [h2]
theorem allW_bad (zs : List Int) (k : Nat) (hk : k < zs.length) (h2 : ¬ okW zs[k] = true) : allW zs = false := by
  unfold allW; rw [List.all_eq_false]; exact ⟨_, List.getElem_mem hk, h2⟩
theorem units (op : Int) : hasB [3, 4, 21, 22, 23, 26] op = decide (op = 3 ∨ op = 4 ∨ (21 ≤ op ∧ op ≤ 23) ∨ op = 26) := by
  unfold hasB; rw [Bool.eq_iff_iff]; simp; omega
/-- the width of an operator's value, and the error -/
def widthL (op x v : Int) (zs : List Int) : Int × Int :=
  if arity op ≠ zs.length then (0, 4) else if allW zs = false then (0, 3) else if (woV op x v zs).2 = true then ((woV op x v zs).1, 0) else (0, 3)
set_option maxRecDepth 100000 in
set_option maxHeartbeats 1000000 in
theorem width_some (op x v : Int) (b off cap : Nat) (zs : List Int) (w : World) (h0 : 0 ≤ v) (hl : zs.length ≤ 9223372036854775807) (hc : ∀ k, k < zs.length → w.cell? ⟨b, off + k, none⟩ = some (.int .i64 (zs.getD k 0))) :
    Calls Tryd.prog 12 #[.int .i64 op, .int .i64 x, .int .u64 v, .slice (some ⟨b, off, none⟩) zs.length cap] w fun e w' => e = .returned (.tuple #[.int .i64 (widthL op x v zs).1, .int .i64 (widthL op x v zs).2]) ∧ Up w w' := by
  by_cases ha : arity op = zs.length
  · have hl3 : zs.length ≤ 3 := by have := (arity_le op).2; omega
    have hne : ((zs.length : Int) != arity op) = false := by rw [ha]; simp
    go_enter Tryd.func12, Tryd.ntmps12
    go_wp2_with (go_at_call 13; refine (arity_any _ _).mono ?_; rintro e w' ⟨rfl, rfl⟩)
    go_loop [21] (fun i => ∃ k : Nat, k ≤ zs.length ∧ i = .int .i64 k ∧ allW (zs.take k) = true) (fun i => zs.length - (intOf i).toNat)
    case atStart => exact ⟨0, Nat.zero_le _, rfl, rfl⟩
    case round =>
      obtain ⟨k, hk, rfl, hno⟩ := hrel
      have hno' := Lib.hid hno
      clear hno
      by_cases hlt : k < zs.length
      · have hcell := hc k hlt
        go_wp2_with (go_at_call 14; refine (isWidth_any _ _).mono ?_; rintro e w' ⟨rfl, rfl⟩)
        · have h : (!okW zs[k]) = true := by assumption
          go_ret2
          exact ⟨ret2 (by unfold widthL; rw [if_neg (by omega), if_pos (allW_bad zs k hlt (by simpa using h))]), Up.refl _⟩
        · have h : (!okW zs[k]) = false := by assumption
          go_round
          case rel => exact ⟨k + 1, by omega, by go_num, allW_snoc zs k hlt hno'.out (by simpa using h)⟩
          case measure => simp [intOf]; omega
      · have hz : allW zs = true := by have hno := hno'.out; rw [List.take_of_length_le (by omega)] at hno; exact hno
        have hz' := Lib.hid hz
        have ha' := Lib.hid ha
        clear hz ha hne
        rcases Bool.eq_false_or_eq_true (woV op x v zs).2 with hb | hb
        all_goals
          go_wp2_with (go_at_call 15; refine (wov_any _ _ _ _ zs _ h0 (Or.inr ⟨b, off, cap, rfl, hc⟩) ha'.out hz'.out).mono ?_; rintro e w' ⟨rfl, hu⟩)
          go_ret2
          exact ⟨ret2 (by unfold widthL; rw [if_neg (by have := ha'.out; omega), if_neg (by simp [hz'.out])]; simp [hb]), hu⟩
  · have hne : ((zs.length : Int) != arity op) = true := by rw [bne_iff_ne]; omega
    go_enter Tryd.func12, Tryd.ntmps12
    go_wp2_with (go_at_call 13; refine (arity_any _ _).mono ?_; rintro e w' ⟨rfl, rfl⟩)
    go_ret2
    exact ⟨ret2 (by unfold widthL; rw [if_pos ha]), Up.refl _⟩
theorem shape (op : Int) (zs : List Int) (h : arity op = zs.length) :
    (leafB op = true ∧ zs = []) ∨ (∃ a, zs = [a] ∧ (op = 3 ∨ op = 4 ∨ op = 26)) ∨ (∃ a, zs = [a] ∧ 21 ≤ op ∧ op ≤ 23) ∨ (∃ a b, zs = [a, b] ∧ op = 20) ∨ (∃ a b, zs = [a, b] ∧ 16 ≤ op ∧ op ≤ 18) ∨ (∃ a b, zs = [a, b] ∧ 5 ≤ op ∧ op ≤ 15) ∨ (∃ a b c, zs = [a, b, c] ∧ op = 19) := by
  have hl : zs.length ≤ 3 := by have := (arity_le op).2; omega
  rcases len_cases zs hl with rfl | ⟨a, rfl⟩ | ⟨a, b, rfl⟩ | ⟨a, b, c, rfl⟩
  · have := arity0 (op := op) (by simpa using h); exact Or.inl ⟨by unfold leafB; simpa using this, rfl⟩
  · have := arity1 (op := op) (by simpa using h)
    by_cases hc : 21 ≤ op ∧ op ≤ 23
    · exact Or.inr (Or.inr (Or.inl ⟨a, rfl, hc⟩))
    · exact Or.inr (Or.inl ⟨a, rfl, by omega⟩)
  · have := arity2 (op := op) (by simpa using h)
    by_cases h20 : op = 20
    · exact Or.inr (Or.inr (Or.inr (Or.inl ⟨a, b, rfl, h20⟩)))
    · by_cases h16 : 16 ≤ op
      · exact Or.inr (Or.inr (Or.inr (Or.inr (Or.inl ⟨a, b, rfl, by omega⟩))))
      · exact Or.inr (Or.inr (Or.inr (Or.inr (Or.inr (Or.inl ⟨a, b, rfl, by omega⟩)))))
  · have := arity3 (op := op) (by simpa using h)
    exact Or.inr (Or.inr (Or.inr (Or.inr (Or.inr (Or.inr ⟨a, b, c, rfl, this⟩)))))
/-- after the loop over the operands' widths, and before: the reference's Width -/
theorem tail_leaf (op x v : Int) (zs : List Int) (hv : fitB v 64 = true) (ha : arity op = zs.length) (hz : allW zs = true) (hl : leafB op = true) (e : zs = []) : widthL op x v zs = leafW op x v := by
  subst e
  unfold widthL leafW
  rw [if_neg (by omega), if_neg (by simp [hz])]
  simp only [woV]
  have ho : op = 1 ∨ op = 2 ∨ op = 24 ∨ op = 25 := by unfold leafB at hl; simpa using hl
  by_cases hx : okW x = true
  · have hb := okW_x hx
    rcases ho with rfl | rfl | rfl | rfl
    · simp [hx]
    · by_cases h0 : x = 0
      · subst h0; simp [okW]
      · by_cases h64 : x = 64
        · subst h64
          simp [hv, okW]
        · have : (0 : Int) < x ∧ x < 64 := by omega
          simp [hx, h0, this]
    · simp [hx]
    · simp [hx]
  · simp [hx]
theorem tail_same (op x v a : Int) (hz : allW [a] = true) (ho : op = 3 ∨ op = 4 ∨ op = 26) : widthL op x v [a] = (a, 0) := by
  have ha : arity op = 1 := by unfold arity; rcases ho with rfl | rfl | rfl <;> rfl
  unfold widthL
  rw [if_neg (by simp [ha]), if_neg (by simp [hz])]
  rcases ho with rfl | rfl | rfl <;> simp [woV]
theorem tail_parts (op x v a : Int) (hz : allW [a] = true) (h1 : 21 ≤ op) (h2 : op ≤ 23) : widthL op x v [a] = partsW op x v a := by
  have ha : arity op = 1 := by unfold arity; rw [if_neg (by omega), if_neg (by omega), if_pos (by omega)]
  have hb : 0 ≤ a ∧ a ≤ 64 := by simpa [allW, okW_iff] using hz
  unfold widthL partsW
  rw [if_neg (by simp [ha]), if_neg (by simp [hz])]
  have ho : op = 21 ∨ op = 22 ∨ op = 23 := by omega
  rcases ho with rfl | rfl | rfl
  · by_cases hc : 1 ≤ x ∧ x ≤ a ∧ v ≤ a - x
    · rw [if_pos (by simpa [woV] using hc), if_pos ⟨by rw [okW_iff]; omega, by omega, by omega, fun _ => by omega, fun h => absurd rfl h⟩]; simp [woV]
    · rw [if_neg (by simpa [woV] using hc), if_neg (by rintro ⟨_, g1, _, g2, _⟩; have := g2 rfl; omega)]
  all_goals
    by_cases hc : (1 ≤ a ∧ a ≤ x) ∧ okW x = true
    · rw [if_pos (by simpa [woV] using hc), if_pos ⟨hc.2, by omega, by omega, fun h => by omega, fun _ => by omega⟩]; simp [woV]
    · rw [if_neg (by simpa [woV] using hc), if_neg (by rintro ⟨g0, g1, g2, _, g4⟩; have := g4 (by omega); exact hc ⟨by omega, g0⟩)]
theorem tail_two (op x v a b : Int) (hz : allW [a, b] = true) (ho : (5 ≤ op ∧ op ≤ 18) ∨ op = 20) : widthL op x v [a, b] = if (woV op x v [a, b]).2 = true then ((woV op x v [a, b]).1, 0) else (0, 3) := by
  have ha : arity op = 2 := by unfold arity; (repeat' split) <;> omega
  unfold widthL
  rw [if_neg (by simp [ha]), if_neg (by simp [hz])]
theorem tail_three (x v a b c : Int) (hz : allW [a, b, c] = true) : widthL 19 x v [a, b, c] = if (a == 1 && b == c) = true then (b, 0) else (0, 3) := by
  unfold widthL
  rw [if_neg (by simp [arity]), if_neg (by simp [hz])]; rfl
end Go.Proofs.YtngmhgcnohgaiaaDoor
