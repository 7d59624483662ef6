/- Rows put together. -/
import Derived.Test.YtjmmaaphadeokaaRD
import Derived.Test.YtjmmaaphadeokaaShelf2
namespace Go.Proofs.Ytjmmaaphadeokaa
open Go.RowKit Go.Shelf
set_option linter.unusedVariables false
set_option linter.unusedSimpArgs false
theorem own_none (w : World) (B e sz : Nat) : w.ownsRow B e sz (.slice none 0 0) 0 [] := World.ownsRow_nil _ _ _ _
def z6 : Value := .agg #[.int .i64 0, .int .i64 0, .int .i64 0, .int .i64 0, .int .i64 0, .int .u64 0]
theorem grow60 (n : Nat) (hn : n ≤ 1000) (w : World) : Calls Try.prog 60 #[.slice none 0 0, .int .i64 (n : Int)] w (OP 54 6 w 0 []) := by
  obtain ⟨i0, hi, hz0, hz1, hz2⟩ := info_parts info54
  by_cases h : n = 0
  · subst h
    refine (Any8.slices_Grow_room Try.grow60 none 0 0 0 w (Nat.le_refl _) (by omega) (by omega) (by omega)).mono ?_
    rintro e w' ⟨rfl, rfl⟩
    exact ⟨_, rfl, own_none _ _ _ _, BK.refl _⟩
  · refine (Any8.slices_Grow_grow Try.grow60 i0 z6 hi hz0 (by rw [hz1]; omega) none 0 0 n [] w (Nat.le_refl _) (by omega) (by rw [hz2]; omega) (by omega) (by simp) (fun _ => rfl) (fun a h => by cases h)).mono ?_
    rintro e w' ⟨rfl, rfl⟩
    have hge := grownCap_ge w (0 + n) 0 54
    have hle := grownCap_le_maxLen w (0 + n) 0 54 (by unfold maxLen; omega)
    refine ⟨_, rfl, ⟨by simp, .inr ⟨w.heap.size, grownCap w (0 + n) 0 54, _, rfl, Nat.le_refl _, heap_alloc_new w.drew _, Nat.zero_le _, hle, ?_, by simp⟩⟩, (show Below w.heap.size w w.drew from bk_drew (BK.refl w)).alloc (Nat.le_refl _) _⟩
    simp only [Array.size_append, size_zeroCells]
    show 0 + (0 + n - 0) * 6 + (grownCap w (0 + n) 0 54 - (0 + n)) * 6 = grownCap w (0 + n) 0 54 * 6
    generalize grownCap w (0 + n) 0 54 = G at hge hle
    omega
/-- an append of instructions onto a row of one's own, nil let in -/
theorem wpList_app6 {ops : Array Oper} {rest : List Oper} {o : Oper} {a : Act} {w : World} {Q : Exit → Act → World → Prop} (hgd : o.guard = none) (s x : Operand)
    (ho : o.op = .call { callee := .builtin .append, args := #[s, x], argTypes := #[22, 22] }) (base : Nat) (v : Value) (n : Nat) (xs : List I6) (hs : a.eval s = v) (hown : w.ownsRow base 54 6 v n (flat6 xs))
    (p : Option Addr) (c : Nat) (ys : List I6) (hx : a.eval x = .slice p ys.length c) (hsrc : RI w p c ys) (hsm : n + ys.length ≤ 100000) (hbase : base ≤ w.heap.size)
    (h : ∀ v' w', w'.ownsRow base 54 6 v' (n + ys.length) (flat6 (xs ++ ys)) → Below base w w' → w.grownBy w' v.ownBlock → wpList Try.prog ops Q rest (a.put o.dst v') w') : wpList Try.prog ops Q (o :: rest) a w := by
  obtain ⟨i0, hi, hz0, hz1, hz2⟩ := info_parts info54
  cases p with
  | none =>
    have hc := hsrc.nl rfl
    have hle := hsrc.le
    obtain rfl := List.eq_nil_of_length_eq_zero (show ys.length = 0 by omega)
    subst hc
    exact wpList_append_own_none hgd s x 22 ho base 54 i0 6 Try.underlying22 hi v n (flat6 xs) hs hown hx (h v w (by simpa using hown) (Below.refl _ _) ⟨rfl, rfl, rfl, Nat.le_refl _, fun _ _ _ => rfl⟩)
  | some ad =>
    refine wpList_append_own w hgd s x 22 ho base 54 i0 _ 6 48 Try.underlying22 hi hz0 hz1 hz2 rfl (by decide) v n (flat6 xs) hs hown ad ys.length c (flat6 ys) hx (flat6_len ys) (ri_src hsrc ad rfl) (flat6_one ys) (by unfold maxLen; omega) (by omega) hbase ?_
    intro v' w' hown' hgrow _
    exact h v' w' (by rw [flat6_app]; exact hown') ((Below.refl base w).grown hgrow hbase (fun j hj => (World.ownsRow.lt hown j hj).1)) hgrow
/-- slices of instructions in a row -/
def SL (w : World) (sg : Nat) (ls : List (List I6)) : Prop := ∀ k (h : k < ls.length), ∃ p c, w.cell? ⟨sg, k, none⟩ = some (.slice p ls[k].length c) ∧ RI w p c ls[k]
theorem SL.keep {w w' : World} {sg : Nat} {ls : List (List I6)} (h : SL w sg ls) (hb : BK w w') : SL w' sg ls := fun k hk => by
  obtain ⟨p, c, h1, h2⟩ := h k hk
  exact ⟨p, c, (hb.bl.cell (p := ⟨sg, k, none⟩) (World.block_lt_of_cell? w _ h1)).trans h1, h2.keep hb⟩
theorem flat_take (ls : List (List I6)) (k : Nat) (h : k < ls.length) : (ls.take (k + 1)).flatten = (ls.take k).flatten ++ ls[k] := by
  rw [List.take_succ_eq_append_getElem h, List.flatten_append, List.flatten_cons, List.flatten_nil, List.append_nil]
theorem flat_take_len (ls : List (List I6)) (k : Nat) : (ls.take k).flatten.length ≤ ls.flatten.length := by
  conv => rhs; rw [← List.take_append_drop k ls, List.flatten_append, List.length_append]
  omega
set_option maxRecDepth 100000 in
set_option maxHeartbeats 1000000 in
theorem concat48 (sg c3 : Nat) (ls : List (List I6)) (w : World) (hS : SL w sg ls) (h3 : ls.length = 3) (hl : ls.flatten.length ≤ 1000) : Calls Try.prog 48 #[.slice (some ⟨sg, 0, none⟩) 3 c3] w (OP 54 6 w ls.flatten.length (flat6 ls.flatten)) := by
  have HS := Lib.hid hS
  have H3 := Lib.hid h3
  have HZ := Lib.hid (show ls.take 3 = ls from List.take_of_length_le (by omega))
  clear hS h3
  go_enter Try.func48, Try.ntmps48
  go_wp2_with fail
  go_loop [3, 11] (fun s i => ∃ k : Nat, k ≤ 3 ∧ i = .int .i64 k ∧ s = .int .i64 ((ls.take k).flatten.length)) (fun _ i => 3 - (intOf i).toNat)
  case atStart => exact ⟨0, by omega, rfl, rfl⟩
  case round =>
    obtain ⟨k, hk, rfl, rfl⟩ := hrel
    by_cases hlt : k < 3
    · have hk3 : k < ls.length := by have := H3.out; omega
      obtain ⟨p, c, hc, hr⟩ := HS.out k hk3
      have hft := flat_take ls k hk3
      have hb1 := flat_take_len ls (k + 1)
      rw [hft, List.length_append] at hb1
      have HF := Lib.hid (show ((ls.take (k + 1)).flatten.length : Int) = ((ls.take k).flatten.length : Int) + (ls[k].length : Int) from by rw [hft, List.length_append]; omega)
      have hi0 : (k : Int) < 3 := by omega
      have hng : decide (((ls.take k).flatten.length : Int) + (ls[k].length : Int) < 0) = false := by simp; omega
      clear hr hft
      generalize ls[k].length = m at hc HF hb1 hng
      generalize (ls.take k).flatten.length = s at HF hb1 hng
      go_wp2_with fail
      go_round
      case rel => exact ⟨k + 1, by omega, by go_num, by rw [HF.out]⟩
      case measure => simp [intOf]; omega
    · obtain rfl : k = 3 := by omega
      rw [HZ.out]
      have HL := Lib.hid (show ls.flatten.length = ls.flatten.length from rfl)
      generalize hn : ls.flatten.length = n at hl
      have HN := Lib.hid hn
      clear hn HL
      go_wp2_with fail
      refine (grow60 n hl w).mono ?_
      rintro e w1 ⟨v1, rfl, ho1, hb1⟩
      have HO1 := Lib.hid ho1
      have K1 := Lib.hid hb1
      clear ho1 hb1
      go_wp2_with fail
      go_loopw [6, 27] (fun v i wr => ∃ k : Nat, k ≤ 3 ∧ i = .int .i64 k ∧ wr.ownsRow w.heap.size 54 6 v (ls.take k).flatten.length (flat6 (ls.take k).flatten) ∧ BK w wr) (fun _ i _ => 3 - (intOf i).toNat)
      case atStart => exact ⟨0, by omega, rfl, HO1.out, K1.out⟩
      case round =>
        obtain ⟨k, hk, rfl, hown, hkw⟩ := hrel
        have HO := Lib.hid hown
        have HK := Lib.hid hkw
        by_cases hlt : k < 3
        · have hk3 : k < ls.length := by have := H3.out; omega
          obtain ⟨p, c, hc, hr⟩ := (HS.out.keep hkw) k hk3
          have hft := flat_take ls k hk3
          have hb1 := flat_take_len ls (k + 1)
          rw [hft, List.length_append, HN.out] at hb1
          have HFT := Lib.hid hft
          have HR := Lib.hid hr
          have hbs := bk_size hkw
          clear hr hft hown hkw
          generalize hgl : ls[k] = l at hc HFT HR hb1
          clear hgl
          generalize hgt : (ls.take k).flatten = t at HO HFT hb1
          clear hgt
          have hown := HO.out
          go_wp2_with (at_builtin; refine wpList_app6 rfl _ _ rfl w.heap.size _ t.length t rfl hown p c l rfl HR.out (by omega) hbs ?_; intro v' w2 ho2 hb2 _; have HO2 := Lib.hid (show w2.ownsRow w.heap.size 54 6 v' (ls.take (k + 1)).flatten.length (flat6 (ls.take (k + 1)).flatten) from by rw [HFT.out]; exact own_cast ho2 (by simp) rfl); have K2 := Lib.hid (show BK w w2 from HK.out.bl.trans hb2); clear ho2 hb2)
          go_roundw
          case rel => exact ⟨k + 1, by omega, by go_num, HO2.out, K2.out⟩
          case measure => simp [intOf]; omega
        · obtain rfl : k = 3 := by omega
          rw [HZ.out, HN.out] at HO
          clear hown hkw
          go_wp2_with fail
          go_ret
          exact ⟨_, rfl, by rw [HN.out]; exact HO.out, HK.out⟩
end Go.Proofs.Ytjmmaaphadeokaa
