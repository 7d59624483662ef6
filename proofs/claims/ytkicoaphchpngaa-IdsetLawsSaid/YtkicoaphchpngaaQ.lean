/- Numbers that leave a work list: the short and the long list. -/
import Derived.Test.YtkicoaphchpngaaO
namespace Go.Proofs.Ytkicoaphchpngaa
open Go.RowKit Go.Lib Go.Sort Go.Maps
set_option linter.unusedVariables false
set_option linter.unusedSimpArgs false
set_option maxHeartbeats 4000000 in
theorem drains_long (a : Option Addr) (n c0 : Nat) (w : World) (hl : 300 < n) :
    Calls Try.prog 7 #[.slice a n c0] w fun e w' => e = .returned (.bool true) ∧ Below w.heap.size w w' := by
  go_enter Try.func7, Try.ntmps7
  go_wp2_with (go_at_call 10; refine (lives_any _).mono ?_; rintro e w4 ⟨rfl, hb4⟩)
  go_ret
  exact ⟨rfl, hb4⟩
set_option maxHeartbeats 4000000 in
theorem drains_zero (a : Option Addr) (c0 : Nat) (w : World) :
    Calls Try.prog 7 #[.slice a 0 c0] w fun e w' => e = .returned (.bool true) ∧ Below w.heap.size w w' := by
  go_enter Try.func7, Try.ntmps7
  go_wp2_with fail
  refine (new_any w.heap.size w (Nat.le_refl _)).mono ?_
  rintro e w1 ⟨rfl, hq1, hb1⟩
  generalize w.heap.size + 1 = bq at hq1 ⊢
  have hq := Lib.hid hq1
  have hb := Lib.hid hb1
  clear hq1 hb1
  go_wp2_with fail
  go_loop [4] (fun i => i = .int .i64 0) (fun _ => 0)
  case atStart => rfl
  case round =>
    subst hrel
    go_wp2_with fail
    go_loop [5, 6] (fun v i => v = .slice none 0 0 ∧ i = .int .i64 0) (fun _ _ => 0)
    case atStart => exact ⟨rfl, rfl⟩
    case round =>
      obtain ⟨rfl, rfl⟩ := hrel
      have hpo := Lib.hid (qpop_none _ bq _ 0 _ _ hq.out)
      have hrf := Lib.hid (rof_zero a c0 w1)
      go_wp2_with (first
        | (go_at_call 35; refine hpo.out.mono ?_; rintro e w' ⟨rfl, rfl⟩)
        | (go_at_call 13; refine hrf.out.mono ?_; rintro e w2 ⟨v2, rfl, hown2, hb2⟩; have hs := same_any (.slice none 0 0) v2 [] [] w2 (Or.inl ⟨none, 0, rfl, rfl⟩) (Rd.own hown2) (by simp); have hb2' := Lib.hid hb2; have hs' := Lib.hid hs; clear hown2 hb2 hs)
        | (go_at_call 11; refine hs'.out.mono ?_; rintro e w3 ⟨rfl, hd3⟩; have hb3 := Lib.hid (below_up hb2'.out (drawn_below hd3)); clear hd3; rw [show sameB [] [] = true from by decide])
        | (go_at_call 36; refine (qlen_any _ bq _ 0 _ [] _ (hq.out.keep hb3.out)).mono ?_; rintro e w' ⟨rfl, rfl⟩)
        | (go_at_call 10; refine (lives_any _).mono ?_; rintro e w4 ⟨rfl, hb4⟩; have hb4' := Lib.hid hb4; clear hb4))
      go_ret
      exact ⟨rfl, below_up hb.out (below_up hb3.out hb4'.out)⟩
theorem rd_row {w : World} {a : Option Addr} {len cap : Nat} {zs : List Int}
    (h : (a = none ∧ len = 0 ∧ cap = 0 ∧ zs = []) ∨ ∃ x, a = some x ∧ len ≤ cap ∧ cap ≤ maxLen ∧ zs.length = cap ∧ (∀ i, i < zs.length → w.cell? (x.add i) = some (.int .i64 (zs.getD i 0))) ∧ ∀ n ∈ zs, (Lit.int .i64 n).wf = true) :
    len = 0 ∨ ∃ b off, a = some ⟨b, off, none⟩ ∧ ∃ ys : List Int, ys.length = len ∧ 0 < len ∧ len ≤ cap ∧ b < w.heap.size ∧ (∀ k, k < ys.length → w.cell? ⟨b, off + k, none⟩ = some (.int .i64 (ys.getD k 0))) ∧ ∀ n ∈ ys, (Lit.int .i64 n).wf = true := by
  rcases h with ⟨_, h, _⟩ | ⟨x, rfl, hlc, hcm, hlen, hcell, hwf⟩
  · exact .inl h
  · by_cases h0 : len = 0
    · exact .inl h0
    · right
      have c0 := hcell 0 (by omega)
      have e0 : x.add 0 = x := by simp [Addr.add]
      rw [e0] at c0
      obtain ⟨b, off, sp⟩ := x
      have hsp : sp = none := by
        cases sp with
        | none => rfl
        | some s =>
          exfalso
          unfold World.cell? at c0
          split at c0 <;> simp at c0
      subst hsp
      refine ⟨b, off, rfl, zs.take len, by simp; omega, by omega, hlc, World.block_lt_of_cell? w _ c0, fun k hk => ?_, fun n hn => hwf n (List.mem_of_mem_take hn)⟩
      simp at hk
      have := hcell k (by omega)
      rw [show (⟨b, off, none⟩ : Addr).add k = ⟨b, off + k, none⟩ from Go.WideShapes.add_plain _ _ _] at this
      rw [this]
      have h1 : k < len := by omega
      simp [List.getD_eq_getElem?_getD, List.getElem?_take, h1]
theorem drains_row {w : World} {a : Option Addr} {len cap : Nat} {zs : List Int}
    (h : (a = none ∧ len = 0 ∧ cap = 0 ∧ zs = []) ∨ ∃ x, a = some x ∧ len ≤ cap ∧ cap ≤ maxLen ∧ zs.length = cap ∧ (∀ i, i < zs.length → w.cell? (x.add i) = some (.int .i64 (zs.getD i 0))) ∧ ∀ n ∈ zs, (Lit.int .i64 n).wf = true) :
    Calls Try.prog 7 #[.slice a len cap] w fun e w' => e = .returned (.bool true) ∧ Below w.heap.size w w' := by
  by_cases hl : 300 < len
  · exact drains_long a len cap w hl
  · rcases rd_row h with rfl | ⟨b, off, rfl, ys, rfl, h0, hc, hb, hcell, hwf⟩
    · exact drains_zero a cap w
    · exact drains_some b off cap ys w h0 (by omega) hb hc hcell hwf
end Go.Proofs.Ytkicoaphchpngaa
