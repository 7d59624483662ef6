/- Width at nil slices, at every slice, and the examples. -/
import Derived.Test.YtngmhgcnohgaiaaD
namespace Go.Proofs.Ytngmhgcnohgaiaa
open Go.RowKit
set_option linter.unusedVariables false
set_option maxRecDepth 100000 in
set_option maxHeartbeats 1000000 in
theorem width_none (op x v : Int) (a : Option Addr) (cap : Nat) (w : World) (h0 : 0 ≤ v) :
    Calls Try.prog 16 #[.int .i64 op, .int .i64 x, .int .u64 v, .slice a 0 cap] w fun e w' => e = .returned (.tuple #[.int .i64 (widthL op x v []).1, .int .i64 (widthL op x v []).2]) ∧ Up w w' := by
  by_cases ha : arity op = 0
  · have hne : ((0 : Int) != arity op) = false := by rw [ha]; rfl
    have ha' : Hid (arity op = ([] : List Int).length) := Lib.hid (by simpa using ha)
    clear ha
    go_enter Try.func16, Try.ntmps16
    go_wp2_with (go_at_call 7; refine (arity_any _ _).mono ?_; rintro e w' ⟨rfl, rfl⟩)
    go_loop [21] (fun i => i = .int .i64 0) (fun i => 0)
    case atStart => rfl
    case round =>
      subst hrel
      rcases Bool.eq_false_or_eq_true (woV op x v []).2 with hb | hb
      all_goals
        go_wp2_with (go_at_call 21; refine (wov_any _ _ _ _ [] _ h0 (Or.inl ⟨_, _, rfl, rfl⟩) ha'.out rfl).mono ?_; rintro e w' ⟨rfl, hu⟩)
        go_ret2
        exact ⟨ret2 (by unfold widthL; rw [if_neg (by have := ha'.out; omega), if_neg (by simp [allW])]; simp [hb]), hu⟩
  · have hne : ((0 : Int) != arity op) = true := by rw [bne_iff_ne]; omega
    go_enter Try.func16, Try.ntmps16
    go_wp2_with (go_at_call 7; refine (arity_any _ _).mono ?_; rintro e w' ⟨rfl, rfl⟩)
    go_ret2
    exact ⟨ret2 (by unfold widthL; rw [if_pos (by simpa using ha)]), Up.refl _⟩
set_option maxRecDepth 100000 in
set_option maxHeartbeats 2000000 in
theorem rwidthf_none (op x v : Int) (a : Option Addr) (cap : Nat) (w : World) (h0 : 0 ≤ v) (hv : Hid (fitB v 64 = true)) :
    Calls Try.prog 17 #[.int .i64 op, .int .i64 x, .int .u64 v, .slice a 0 cap] w fun e w' => e = .returned (.tuple #[.int .i64 (widthL op x v []).1, .int .i64 (widthL op x v []).2]) ∧ Up w w' := by
  by_cases ha : arity op = 0
  · have hne : ((0 : Int) != arity op) = false := by rw [ha]; rfl
    have h00 : 0 ≤ arity op := by omega
    have hlf : leafB op = true := by rw [← arity_leaf, ha]; rfl
    have ha' : Hid (arity op = ([] : List Int).length) := Lib.hid (by simpa using ha)
    have hlf' := Lib.hid hlf
    clear ha
    go_enter Try.func17, Try.ntmps17
    go_wp2_with fail
    refine (rarity_any _ _).mono ?_
    rintro e w1 ⟨rfl, hu1⟩
    go_wp2_with fail
    refine (rarity_any _ _).mono ?_
    rintro e w2 ⟨rfl, hu2⟩
    go_wp2_with fail
    have hu : Up w w2 := hu1.trans hu2
    clear hne hu1 hu2
    go_loop [23] (fun i => i = .int .i64 0) (fun i => 0)
    case atStart => rfl
    case round =>
      subst hrel
      go_wp2_with (first | (go_at_call 12; refine (rleaf_any _ _).mono ?_; rintro e w' ⟨rfl, rfl⟩) | (go_at_call 23; refine (rleafw_any _ _ _ _ h0).mono ?_; rintro e w' ⟨rfl, rfl⟩))
      go_ret2
      exact ⟨ret2 (by rw [tail_leaf op x v [] hv.out ha'.out rfl hlf'.out rfl]), hu.alloc _ _⟩
  · have hne : ((0 : Int) != arity op) = true := by rw [bne_iff_ne]; omega
    have ha' : Hid (arity op ≠ ([] : List Int).length) := Lib.hid (by simpa using ha)
    clear ha
    go_enter Try.func17, Try.ntmps17
    go_wp2_with fail
    refine (rarity_any _ _).mono ?_
    rintro e w1 ⟨rfl, hu1⟩
    go_wp2_with fail
    · refine (rarity_any _ _).mono ?_
      rintro e w2 ⟨rfl, hu2⟩
      go_wp2_with fail
      go_ret2
      exact ⟨ret2 (by unfold widthL; rw [if_pos ha'.out]), hu1.trans hu2⟩
    · go_ret2
      exact ⟨ret2 (by unfold widthL; rw [if_pos ha'.out]), hu1⟩
theorem width_any (op x v : Int) (sv : Value) (zs : List Int) (w : World) (h0 : 0 ≤ v) (hl : zs.length ≤ 9223372036854775807) (hs : SlI w sv zs) :
    Calls Try.prog 16 #[.int .i64 op, .int .i64 x, .int .u64 v, sv] w fun e w' => e = .returned (.tuple #[.int .i64 (widthL op x v zs).1, .int .i64 (widthL op x v zs).2]) ∧ Up w w' := by
  rcases hs with ⟨a, cap, rfl, rfl⟩ | ⟨b, off, cap, rfl, hc⟩
  · exact width_none op x v a cap w h0
  · exact width_some op x v b off cap zs w h0 hl hc
theorem rwidthf_any (op x v : Int) (sv : Value) (zs : List Int) (w : World) (h0 : 0 ≤ v) (hv : fitB v 64 = true) (hl : zs.length ≤ 9223372036854775807) (hs : SlI w sv zs) :
    Calls Try.prog 17 #[.int .i64 op, .int .i64 x, .int .u64 v, sv] w fun e w' => e = .returned (.tuple #[.int .i64 (widthL op x v zs).1, .int .i64 (widthL op x v zs).2]) ∧ Up w w' := by
  rcases hs with ⟨a, cap, rfl, rfl⟩ | ⟨b, off, cap, rfl, hc⟩
  · exact rwidthf_none op x v a cap w h0 (Lib.hid hv)
  · exact rwidthf_some op x v b off cap zs w h0 (Lib.hid hv) hl hc
set_option maxHeartbeats 400000 in
theorem lives_any (w : World) : Calls Try.prog 15 #[] w fun e w' => e = .returned (.bool true) ∧ Up w w' := by
  go_enter Try.func15, Try.ntmps15
  go_wp2_with fail
  refine (width_some 20 0 0 _ 0 2 [8, 8] _ (by omega) (by simp) (fun k hk => ints_alloc w [8, 8] 3 k hk)).mono ?_
  rintro e w1 ⟨rfl, hu1⟩
  have e1 : widthL 20 0 0 [8, 8] = (16, 0) := by decide
  rw [e1]
  clear e1
  go_wp2_with fail
  refine (width_some 21 4 5 _ 0 1 [8] _ (by omega) (by simp) (fun k hk => ints_alloc w1 [8] 3 k hk)).mono ?_
  rintro e w2 ⟨rfl, hu2⟩
  have e2 : widthL 21 4 5 [8] = (0, 3) := by decide
  rw [e2]
  clear e2
  go_wp2_with fail
  go_ret
  exact ⟨rfl, (((Up.refl w).alloc _ _).trans hu1).trans (((Up.refl w1).alloc _ _).trans hu2)⟩
set_option maxHeartbeats 400000 in
theorem kinds_walk (op : Int) (w : World) : Calls Try.prog 3 #[.int .i64 op] w fun e w' => e = .returned (.bool true) ∧ Up w w' := by
  go_enter Try.func3, Try.ntmps3
  go_wp2_with fail
  refine (arity_any _ _).mono ?_
  rintro e w1 ⟨rfl, rfl⟩
  go_wp2_with fail
  refine (rarity_any _ _).mono ?_
  rintro e w2 ⟨rfl, hu2⟩
  go_wp2_with fail
  refine (commutes_any _ _).mono ?_
  rintro e w3 ⟨rfl, rfl⟩
  go_wp2_with fail
  refine (rcommutes_any _ _).mono ?_
  rintro e w4 ⟨rfl, rfl⟩
  go_wp2_with fail
  refine (leaf_any _ _).mono ?_
  rintro e w5 ⟨rfl, rfl⟩
  go_wp2_with fail
  refine (rleaf_any _ _).mono ?_
  rintro e w6 ⟨rfl, rfl⟩
  go_wp2_with fail
  refine (pattern_any _ _).mono ?_
  rintro e w7 ⟨rfl, rfl⟩
  go_wp2_with fail
  refine (rpattern_any _ _).mono ?_
  rintro e w8 ⟨rfl, rfl⟩
  go_wp2_with fail
  refine (lives_any _).mono ?_
  rintro e w9 ⟨rfl, hu9⟩
  go_wp2_with fail
  go_ret
  exact ⟨rfl, (((hu2.alloc _ _).alloc _ _).alloc _ _).trans hu9⟩
/-- the law on widths -/
theorem widths_walk (op x v : Int) (sv : Value) (zs : List Int) (w : World) (h0 : 0 ≤ v) (hv : fitB v 64 = true) (hl : zs.length ≤ 9223372036854775807) (hs : SlI w sv zs) :
    Calls Try.prog 4 #[.agg #[.int .i64 op, .int .i64 x, .int .u64 v, sv]] w fun e w' => e = .returned (.bool true) ∧ Up w w' := by
  have hv' := Lib.hid hv
  have hs' := Lib.hid hs
  clear hv hs
  go_enter Try.func4, Try.ntmps4
  go_wp2_with fail
  refine (width_any op x v sv zs _ h0 hl (hs'.out.up ((Up.refl w).alloc _ _))).mono ?_
  rintro e w1 ⟨rfl, hu1⟩
  have k0 : w1.cell? ⟨w.heap.size, 0, none⟩ = some (.int .i64 op) := hu1.cell (by rw [World.cell?_alloc_new]; rfl)
  have k1 : w1.cell? ⟨w.heap.size, 1, none⟩ = some (.int .i64 x) := hu1.cell (by rw [World.cell?_alloc_new]; rfl)
  have k2 : w1.cell? ⟨w.heap.size, 2, none⟩ = some (.int .u64 v) := hu1.cell (by rw [World.cell?_alloc_new]; rfl)
  have k3 : w1.cell? ⟨w.heap.size, 3, none⟩ = some sv := hu1.cell (by rw [World.cell?_alloc_new]; rfl)
  go_wp2_with fail
  refine (rwidthf_any op x v sv zs _ h0 hv'.out hl ((hs'.out.up ((Up.refl w).alloc _ _)).up hu1)).mono ?_
  rintro e w2 ⟨rfl, hu2⟩
  clear k0 k1 k2 k3
  go_wp2_with fail
  refine (lives_any _).mono ?_
  rintro e w3 ⟨rfl, hu3⟩
  go_wp2_with fail
  go_ret
  exact ⟨rfl, ((((Up.refl w).alloc _ _).trans hu1).trans hu2).trans hu3⟩
def zB (x : Int) (zs : List Int) : Bool := x == 0 || zs.any (· == 0)
theorem zB_snoc (x : Int) (zs : List Int) (k : Nat) (hk : k < zs.length) : zB x (zs.take (k + 1)) = (zB x (zs.take k) || zs[k] == 0) := by
  unfold zB; rw [List.take_succ_eq_append_getElem hk, List.any_append]; simp [Bool.or_assoc]
theorem zB_iff (x : Int) (zs : List Int) : zB x zs = true ↔ x = 0 ∨ ∃ a ∈ zs, a = 0 := by
  unfold zB; simp
theorem widthL_err (op x v : Int) (zs : List Int) (h : (widthL op x v zs).2 ≠ 0) : (widthL op x v zs).1 = 0 := by
  unfold widthL at h ⊢; (repeat' split at h) <;> simp_all
theorem widthL_ok (op x v : Int) (zs : List Int) (h : (widthL op x v zs).2 = 0) : 0 ≤ (widthL op x v zs).1 ∧ (widthL op x v zs).1 ≤ 64 ∧ (0 < (widthL op x v zs).1 ∨ zB x zs = true) := by
  unfold widthL at h ⊢
  by_cases ha : arity op ≠ zs.length
  · rw [if_pos ha] at h; simp at h
  · rw [if_neg ha] at h ⊢
    by_cases hz : allW zs = false
    · rw [if_pos hz] at h; simp at h
    · rw [if_neg hz] at h ⊢
      by_cases hb : (woV op x v zs).2 = true
      · rw [if_pos hb]
        rw [Bool.not_eq_false] at hz
        rw [zB_iff]
        show 0 ≤ (woV op x v zs).1 ∧ (woV op x v zs).1 ≤ 64 ∧ (0 < (woV op x v zs).1 ∨ _)
        have ha' : arity op = zs.length := by omega
        have hl : zs.length ≤ 3 := by have := (arity_le op).2; omega
        rcases len_cases zs hl with rfl | ⟨a, rfl⟩ | ⟨a, b, rfl⟩ | ⟨a, b, c, rfl⟩
        · simp only [woV] at hb ⊢
          have hx := okW_x (by simp at hb; exact hb.1)
          by_cases h0 : x = 0
          · exact ⟨by omega, by omega, Or.inr (Or.inl h0)⟩
          · exact ⟨by omega, by omega, Or.inl (by omega)⟩
        · have hA : 0 ≤ a ∧ a ≤ 64 := by simpa [allW, okW_iff] using hz
          have key : 0 ≤ (woV op x v [a]).1 ∧ (woV op x v [a]).1 ≤ 64 ∧ (0 < (woV op x v [a]).1 ∨ a = 0) := by
            simp only [woV] at hb ⊢
            by_cases c1 : op = 21
            · rw [if_pos c1] at hb ⊢; simp at hb; exact ⟨by show 0 ≤ x; omega, by show x ≤ 64; omega, Or.inl (by show 0 < x; omega)⟩
            · rw [if_neg c1] at hb ⊢
              by_cases c2 : op = 22 ∨ op = 23
              · rw [if_pos c2] at hb ⊢; simp at hb
                have hx := okW_x hb.2
                exact ⟨by show 0 ≤ x; omega, by show x ≤ 64; omega, Or.inl (by show 0 < x; omega)⟩
              · rw [if_neg c2]; exact ⟨hA.1, hA.2, by show 0 < a ∨ a = 0; omega⟩
          exact ⟨key.1, key.2.1, key.2.2.elim Or.inl fun h => Or.inr (Or.inr ⟨a, by simp, h⟩)⟩
        · have hA : (0 ≤ a ∧ a ≤ 64) ∧ 0 ≤ b ∧ b ≤ 64 := by simpa [allW, okW_iff] using hz
          have key : 0 ≤ (woV op x v [a, b]).1 ∧ (woV op x v [a, b]).1 ≤ 64 ∧ (0 < (woV op x v [a, b]).1 ∨ a = 0) := by
            simp only [woV] at hb ⊢
            by_cases c1 : op = 20
            · rw [if_pos c1] at hb ⊢; simp at hb
              have hx := okW_x hb.2
              exact ⟨hx.1, hx.2, Or.inl (by show 0 < a + b; omega)⟩
            · rw [if_neg c1]
              by_cases c2 : 16 ≤ op ∧ op ≤ 18
              · rw [if_pos c2]; exact ⟨by show (0 : Int) ≤ 1; omega, by show (1 : Int) ≤ 64; omega, Or.inl (by show (0 : Int) < 1; omega)⟩
              · rw [if_neg c2]; exact ⟨hA.1.1, hA.1.2, by show 0 < a ∨ a = 0; omega⟩
          exact ⟨key.1, key.2.1, key.2.2.elim Or.inl fun h => Or.inr (Or.inr ⟨a, by simp, h⟩)⟩
        · have hA : (0 ≤ a ∧ a ≤ 64) ∧ (0 ≤ b ∧ b ≤ 64) ∧ 0 ≤ c ∧ c ≤ 64 := by simpa [allW, okW_iff] using hz
          refine ⟨hA.2.1.1, hA.2.1.2, ?_⟩
          by_cases h0 : b = 0
          · exact Or.inr (Or.inr ⟨b, by simp, h0⟩)
          · exact Or.inl (by show 0 < b; omega)
      · rw [if_neg hb] at h; simp at h
set_option maxRecDepth 100000 in
set_option maxHeartbeats 1000000 in
theorem zero_walk (op x v : Int) (sv : Value) (zs : List Int) (w : World) (h0 : 0 ≤ v) (hv : fitB v 64 = true) (hl : zs.length ≤ 9223372036854775807) (hs : SlI w sv zs) :
    Calls Try.prog 6 #[.agg #[.int .i64 op, .int .i64 x, .int .u64 v, sv]] w fun e w' => e = .returned (.bool true) ∧ Up w w' := by
  have hv' := Lib.hid hv
  have hs' := Lib.hid hs
  clear hv hs
  go_enter Try.func6, Try.ntmps6
  go_wp2_with fail
  refine (width_any op x v sv zs _ h0 hl (hs'.out.up ((Up.refl w).alloc _ _))).mono ?_
  rintro e w1 ⟨rfl, hu1⟩
  have k0 : w1.cell? ⟨w.heap.size, 0, none⟩ = some (.int .i64 op) := hu1.cell (by rw [World.cell?_alloc_new]; rfl)
  have k1 : w1.cell? ⟨w.heap.size, 1, none⟩ = some (.int .i64 x) := hu1.cell (by rw [World.cell?_alloc_new]; rfl)
  have k2 : w1.cell? ⟨w.heap.size, 2, none⟩ = some (.int .u64 v) := hu1.cell (by rw [World.cell?_alloc_new]; rfl)
  have k3 : w1.cell? ⟨w.heap.size, 3, none⟩ = some sv := hu1.cell (by rw [World.cell?_alloc_new]; rfl)
  have hs1 := (hs'.out.up ((Up.refl w).alloc (#[.int .i64 op, .int .i64 x, .int .u64 v, sv]) 29)).up hu1
  have hU : Up w w1 := ((Up.refl w).alloc _ _).trans hu1
  clear hs' hu1 hv'
  rcases hs1 with ⟨a, cap, rfl, rfl⟩ | ⟨b, off, cap, rfl, hc⟩
  · have he := widthL_err op x v []
    have ho := widthL_ok op x v []
    generalize widthL op x v [] = p at he ho ⊢
    obtain ⟨r, e⟩ := p
    have he' := Lib.hid he
    have ho' := Lib.hid ho
    clear he ho
    go_wp2_with fail
    go_loop [5, 25] (fun z i => z = .bool (x == 0) ∧ i = .int .i64 0) (fun z i => 0)
    case atStart => exact ⟨rfl, rfl⟩
    case round =>
      obtain ⟨rfl, rfl⟩ := hrel
      by_cases hee : e = 0
      · have ho := ho'.out hee
        obtain ⟨r0, r1, r2⟩ := ho
        have hne : (e != 0) = false := by simpa using hee
        clear hee
        by_cases rp : 0 < r
        · go_wp2_with (go_at_call 15; refine (lives_any _).mono ?_; rintro e w' ⟨rfl, hu3⟩)
          go_ret
          exact ⟨rfl, hU.trans hu3⟩
        · have r3 : zB x [] = true := r2.resolve_left rp
          clear r2
          have r4 : (x == 0) = true := by simpa [zB] using r3
          clear r3
          go_wp2_with (go_at_call 15; refine (lives_any _).mono ?_; rintro e w' ⟨rfl, hu3⟩)
          go_ret
          exact ⟨rfl, hU.trans hu3⟩
      · obtain rfl := he'.out hee
        have hne : (e != 0) = true := by simpa using hee
        clear hee
        go_wp2_with (go_at_call 15; refine (lives_any _).mono ?_; rintro e w' ⟨rfl, hu3⟩)
        go_ret
        exact ⟨rfl, hU.trans hu3⟩
  · have he := widthL_err op x v zs
    have ho := widthL_ok op x v zs
    generalize widthL op x v zs = p at he ho ⊢
    obtain ⟨r, e⟩ := p
    have he' := Lib.hid he
    have ho' := Lib.hid ho
    clear he ho
    go_wp2_with fail
    go_loop [5, 25] (fun z i => ∃ k : Nat, k ≤ zs.length ∧ z = .bool (zB x (zs.take k)) ∧ i = .int .i64 k) (fun z i => zs.length - (intOf i).toNat)
    case atStart => exact ⟨0, Nat.zero_le _, by simp [zB], rfl⟩
    case round =>
      obtain ⟨k, hk, rfl, rfl⟩ := hrel
      by_cases hlt : k < zs.length
      · have hcell := hc k hlt
        have hsn := Lib.hid (zB_snoc x zs k hlt)
        rcases Bool.eq_false_or_eq_true (zB x (zs.take k)) with hz | hz
        · go_wp2_with fail
          go_round
          case rel => exact ⟨k + 1, by omega, by rw [hsn.out, hz]; rfl, by go_num⟩
          case measure => simp [intOf]; omega
        · go_wp2_with fail
          go_round
          case rel => exact ⟨k + 1, by omega, by rw [hsn.out, hz]; rfl, by go_num⟩
          case measure => simp [intOf]; omega
      · obtain rfl : k = zs.length := by omega
        rw [List.take_length]
        by_cases hee : e = 0
        · have ho := ho'.out hee
          obtain ⟨r0, r1, r2⟩ := ho
          have hne : (e != 0) = false := by simpa using hee
          clear hee
          by_cases rp : 0 < r
          · go_wp2_with (go_at_call 15; refine (lives_any _).mono ?_; rintro e w' ⟨rfl, hu3⟩)
            go_ret
            exact ⟨rfl, hU.trans hu3⟩
          · have r3 : zB x zs = true := r2.resolve_left rp
            clear r2
            go_wp2_with (go_at_call 15; refine (lives_any _).mono ?_; rintro e w' ⟨rfl, hu3⟩)
            go_ret
            exact ⟨rfl, hU.trans hu3⟩
        · obtain rfl := he'.out hee
          have hne : (e != 0) = true := by simpa using hee
          clear hee
          go_wp2_with (go_at_call 15; refine (lives_any _).mono ?_; rintro e w' ⟨rfl, hu3⟩)
          go_ret
          exact ⟨rfl, hU.trans hu3⟩
end Go.Proofs.Ytngmhgcnohgaiaa
