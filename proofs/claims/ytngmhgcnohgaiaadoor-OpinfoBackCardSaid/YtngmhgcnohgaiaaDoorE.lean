/- Width at nil slices, at every slice, and the examples. -/
import Derived.Test.YtngmhgcnohgaiaaDoorC
import Derived.Lib.Hide
namespace Go.Proofs.YtngmhgcnohgaiaaDoor
open Go.RowKit
set_option linter.unusedVariables false
set_option maxRecDepth 100000 in
set_option maxHeartbeats 1000000 in
theorem width_none (op x v : Int) (a : Option Addr) (cap : Nat) (w : World) (h0 : 0 ≤ v) :
    Calls Tryd.prog 12 #[.int .i64 op, .int .i64 x, .int .u64 v, .slice a 0 cap] w fun e w' => e = .returned (.tuple #[.int .i64 (widthL op x v []).1, .int .i64 (widthL op x v []).2]) ∧ Up w w' := by
  by_cases ha : arity op = 0
  · have hne : ((0 : Int) != arity op) = false := by rw [ha]; rfl
    have ha' : Hid (arity op = ([] : List Int).length) := Lib.hid (by simpa using ha)
    clear ha
    go_enter Tryd.func12, Tryd.ntmps12
    go_wp2_with (go_at_call 13; refine (arity_any _ _).mono ?_; rintro e w' ⟨rfl, rfl⟩)
    go_loop [21] (fun i => i = .int .i64 0) (fun i => 0)
    case atStart => rfl
    case round =>
      subst hrel
      rcases Bool.eq_false_or_eq_true (woV op x v []).2 with hb | hb
      all_goals
        go_wp2_with (go_at_call 15; refine (wov_any _ _ _ _ [] _ h0 (Or.inl ⟨_, _, rfl, rfl⟩) ha'.out rfl).mono ?_; rintro e w' ⟨rfl, hu⟩)
        go_ret2
        exact ⟨ret2 (by unfold widthL; rw [if_neg (by have := ha'.out; omega), if_neg (by simp [allW])]; simp [hb]), hu⟩
  · have hne : ((0 : Int) != arity op) = true := by rw [bne_iff_ne]; omega
    go_enter Tryd.func12, Tryd.ntmps12
    go_wp2_with (go_at_call 13; refine (arity_any _ _).mono ?_; rintro e w' ⟨rfl, rfl⟩)
    go_ret2
    exact ⟨ret2 (by unfold widthL; rw [if_pos (by simpa using ha)]), Up.refl _⟩
theorem width_any (op x v : Int) (sv : Value) (zs : List Int) (w : World) (h0 : 0 ≤ v) (hl : zs.length ≤ 9223372036854775807) (hs : SlI w sv zs) :
    Calls Tryd.prog 12 #[.int .i64 op, .int .i64 x, .int .u64 v, sv] w fun e w' => e = .returned (.tuple #[.int .i64 (widthL op x v zs).1, .int .i64 (widthL op x v zs).2]) ∧ Up w w' := by
  rcases hs with ⟨a, cap, rfl, rfl⟩ | ⟨b, off, cap, rfl, hc⟩
  · exact width_none op x v a cap w h0
  · exact width_some op x v b off cap zs w h0 hl hc
set_option maxHeartbeats 400000 in
theorem lives_any (w : World) : Calls Tryd.prog 9 #[] w fun e w' => e = .returned (.bool true) ∧ Up w w' := by
  go_enter Tryd.func9, Tryd.ntmps9
  go_wp2_with fail
  refine (width_some 20 0 0 _ 0 2 [8, 8] _ (by omega) (by simp) (fun k hk => ints_alloc w [8, 8] 3 k hk)).mono ?_
  rintro e w1 ⟨rfl, hu1⟩
  have e1 : widthL 20 0 0 [8, 8] = (16, 0) := by decide
  rw [e1]
  clear e1
  go_wp2_with fail
  refine (width_some 21 4 5 _ 0 1 [8] _ (by omega) (by simp) (fun k hk => ints_alloc w1 [8] 3 k hk)).mono ?_
  rintro e w2 ⟨rfl, hu2⟩
  have e2 : widthL 21 4 5 [8] = (0, 3) := by decide
  rw [e2]
  clear e2
  go_wp2_with fail
  go_ret
  exact ⟨rfl, (((Up.refl w).alloc _ _).trans hu1).trans (((Up.refl w1).alloc _ _).trans hu2)⟩
def zB (x : Int) (zs : List Int) : Bool := x == 0 || zs.any (· == 0)
theorem zB_snoc (x : Int) (zs : List Int) (k : Nat) (hk : k < zs.length) : zB x (zs.take (k + 1)) = (zB x (zs.take k) || zs[k] == 0) := by
  unfold zB; rw [List.take_succ_eq_append_getElem hk, List.any_append]; simp [Bool.or_assoc]
theorem zB_iff (x : Int) (zs : List Int) : zB x zs = true ↔ x = 0 ∨ ∃ a ∈ zs, a = 0 := by
  unfold zB; simp
theorem widthL_err (op x v : Int) (zs : List Int) (h : (widthL op x v zs).2 ≠ 0) : (widthL op x v zs).1 = 0 := by
  unfold widthL at h ⊢; (repeat' split at h) <;> simp_all
theorem widthL_ok (op x v : Int) (zs : List Int) (h : (widthL op x v zs).2 = 0) : 0 ≤ (widthL op x v zs).1 ∧ (widthL op x v zs).1 ≤ 64 ∧ (0 < (widthL op x v zs).1 ∨ zB x zs = true) := by
  unfold widthL at h ⊢
  by_cases ha : arity op ≠ zs.length
  · rw [if_pos ha] at h; simp at h
  · rw [if_neg ha] at h ⊢
    by_cases hz : allW zs = false
    · rw [if_pos hz] at h; simp at h
    · rw [if_neg hz] at h ⊢
      by_cases hb : (woV op x v zs).2 = true
      · rw [if_pos hb]
        rw [Bool.not_eq_false] at hz
        rw [zB_iff]
        show 0 ≤ (woV op x v zs).1 ∧ (woV op x v zs).1 ≤ 64 ∧ (0 < (woV op x v zs).1 ∨ _)
        have ha' : arity op = zs.length := by omega
        have hl : zs.length ≤ 3 := by have := (arity_le op).2; omega
        rcases len_cases zs hl with rfl | ⟨a, rfl⟩ | ⟨a, b, rfl⟩ | ⟨a, b, c, rfl⟩
        · simp only [woV] at hb ⊢
          have hx := okW_x (by simp at hb; exact hb.1)
          by_cases h0 : x = 0
          · exact ⟨by omega, by omega, Or.inr (Or.inl h0)⟩
          · exact ⟨by omega, by omega, Or.inl (by omega)⟩
        · have hA : 0 ≤ a ∧ a ≤ 64 := by simpa [allW, okW_iff] using hz
          have key : 0 ≤ (woV op x v [a]).1 ∧ (woV op x v [a]).1 ≤ 64 ∧ (0 < (woV op x v [a]).1 ∨ a = 0) := by
            simp only [woV] at hb ⊢
            by_cases c1 : op = 21
            · rw [if_pos c1] at hb ⊢; simp at hb; exact ⟨by show 0 ≤ x; omega, by show x ≤ 64; omega, Or.inl (by show 0 < x; omega)⟩
            · rw [if_neg c1] at hb ⊢
              by_cases c2 : op = 22 ∨ op = 23
              · rw [if_pos c2] at hb ⊢; simp at hb
                have hx := okW_x hb.2
                exact ⟨by show 0 ≤ x; omega, by show x ≤ 64; omega, Or.inl (by show 0 < x; omega)⟩
              · rw [if_neg c2]; exact ⟨hA.1, hA.2, by show 0 < a ∨ a = 0; omega⟩
          exact ⟨key.1, key.2.1, key.2.2.elim Or.inl fun h => Or.inr (Or.inr ⟨a, by simp, h⟩)⟩
        · have hA : (0 ≤ a ∧ a ≤ 64) ∧ 0 ≤ b ∧ b ≤ 64 := by simpa [allW, okW_iff] using hz
          have key : 0 ≤ (woV op x v [a, b]).1 ∧ (woV op x v [a, b]).1 ≤ 64 ∧ (0 < (woV op x v [a, b]).1 ∨ a = 0) := by
            simp only [woV] at hb ⊢
            by_cases c1 : op = 20
            · rw [if_pos c1] at hb ⊢; simp at hb
              have hx := okW_x hb.2
              exact ⟨hx.1, hx.2, Or.inl (by show 0 < a + b; omega)⟩
            · rw [if_neg c1]
              by_cases c2 : 16 ≤ op ∧ op ≤ 18
              · rw [if_pos c2]; exact ⟨by show (0 : Int) ≤ 1; omega, by show (1 : Int) ≤ 64; omega, Or.inl (by show (0 : Int) < 1; omega)⟩
              · rw [if_neg c2]; exact ⟨hA.1.1, hA.1.2, by show 0 < a ∨ a = 0; omega⟩
          exact ⟨key.1, key.2.1, key.2.2.elim Or.inl fun h => Or.inr (Or.inr ⟨a, by simp, h⟩)⟩
        · have hA : (0 ≤ a ∧ a ≤ 64) ∧ (0 ≤ b ∧ b ≤ 64) ∧ 0 ≤ c ∧ c ≤ 64 := by simpa [allW, okW_iff] using hz
          refine ⟨hA.2.1.1, hA.2.1.2, ?_⟩
          by_cases h0 : b = 0
          · exact Or.inr (Or.inr ⟨b, by simp, h0⟩)
          · exact Or.inl (by show 0 < b; omega)
      · rw [if_neg hb] at h; simp at h
end Go.Proofs.YtngmhgcnohgaiaaDoor
