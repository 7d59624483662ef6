/- Package heap over the numbers of a work list: down. -/
import Derived.Test.YtkicoaphchpngaaC
namespace Go.Proofs.Ytkicoaphchpngaa
open Go.RowKit
set_option linter.unusedVariables false
def Tail (n : Nat) (a b : List Int) : Prop := ∀ k, n ≤ k → a.getD k 0 = b.getD k 0
theorem tail_swp {n : Nat} {a b : List Int} (h : Tail n a b) {i j : Nat} (hi : i < n) (hj : j < n) (hn : n ≤ a.length) : Tail n (swp a i j) b := fun k hk => by
  rw [swp_at a i j k (by omega) (by omega), if_neg (by omega), if_neg (by omega)]; exact h k hk
set_option maxHeartbeats 4000000 in
theorem down_any (B bq g cap n : Nat) (zs : List Int) (i0 : Nat) (w : World) (h : QR w B bq g cap zs) (hsm : zs.length ≤ 1000000) (hn : n ≤ zs.length) (hi0 : i0 ≤ n) (hd : DnEx n zs i0) :
    Calls Try.prog 66 #[.iface 55 (.pointer (some ⟨bq, 2, none⟩)), .int .i64 i0, .int .i64 n] w fun e w' => (∃ b, e = .returned (.bool b)) ∧ ∃ zs', zs'.Perm zs ∧ Heap n zs' ∧ Tail n zs' zs ∧ QR w' B bq g cap zs' ∧ w.grownBy w' (some g) := by
  go_enter Try.func66, Try.ntmps66
  go_wp2_with fail
  go_loopw [7] (fun i wr => ∃ (k : Nat) (ys : List Int), i = .int .i64 k ∧ k ≤ n ∧ ys.Perm zs ∧ DnEx n ys k ∧ Tail n ys zs ∧ QR wr B bq g cap ys ∧ w.grownBy wr (some g)) (fun i _ => n - (intOf i).toNat)
  case atStart => exact ⟨i0, zs, rfl, hi0, .refl _, hd, fun _ _ => rfl, h, grown_refl _ _⟩
  case round =>
    obtain ⟨k, ys, rfl, hk, hp, hux, ht, hq, hg⟩ := hrel
    have hlen := hq.len
    have hyl : n ≤ ys.length := by rw [hp.length_eq]; exact hn
    have hyl2 : ys.length ≤ 1000000 := by rw [hp.length_eq]; exact hsm
    have hk2 : k ≤ 1000000 := by omega
    obtain ⟨j1, hj1⟩ : ∃ j1, j1 = 2 * k + 1 := ⟨_, rfl⟩
    have e1 : 2 * (k : Int) + 1 = (j1 : Int) := by omega
    have hkl : k < j1 := by omega
    have hj1' := Lib.hid hj1
    clear hj1
    by_cases hb1 : j1 < n
    · by_cases hb2 : j1 + 1 < n
      · obtain ⟨j2, hj2⟩ : ∃ j2, j2 = j1 + 1 := ⟨_, rfl⟩
        have e2 : (j1 : Int) + 1 = (j2 : Int) := by omega
        have hj12 : j1 < j2 := by omega
        have hj2n : j2 < n := by omega
        have hj2' := Lib.hid hj2
        clear hj2 hb2
        have hml := meth_less ⟨bq, 2, none⟩ wr _ _ _ hq.cell
        have hen := enter101
        go_wp2_with fail
        refine (less_any g cap ys j2 j1 wr hlen hq.cells (by omega) (by omega)).mono ?_
        rintro e w1 ⟨rfl, q, rfl⟩
        clear hml hen
        have hq1 := hq.drew q
        have hg1 := grown_drew hg q
        generalize wr.drewN q = wr1 at hq1 hg1 ⊢
        rcases Bool.eq_false_or_eq_true (ltAt ys j2 j1) with hlt | hlt
        · have hmin : ∀ c, 0 < c → c < n → (c - 1) / 2 = k → ys.getD j2 0 ≤ ys.getD c 0 := fun c c0 c1 c2 => by
            have a1 := hj1'.out
            have a2 := hj2'.out
            have h1 : c = j1 ∨ c = j2 := by omega
            have h2 : ys.getD j2 0 < ys.getD j1 0 := by unfold ltAt at hlt; simpa using hlt
            rcases h1 with rfl | rfl
            · omega
            · exact Int.le_refl _
          have hpar : (j2 - 1) / 2 = k := by have a1 := hj1'.out; have a2 := hj2'.out; omega
          have hpar' := Lib.hid hpar
          clear hpar
          have hml2 := meth_less ⟨bq, 2, none⟩ wr1 _ _ _ hq1.cell
          have hen := enter101
          go_wp2_with fail
          refine (less_any g cap ys j2 k wr1 hlen hq1.cells (by omega) (by omega)).mono ?_
          rintro e w1 ⟨rfl, q2, rfl⟩
          clear hml2 hen
          rcases Bool.eq_false_or_eq_true (ltAt ys j2 k) with hlt2 | hlt2
          · have hq2 := hq1.drew q2
            have hms := meth_swap ⟨bq, 2, none⟩ _ _ _ _ hq2.cell
            have hen := enter102
            go_wp2_with fail
            refine (swap_any g cap ys k j2 _ hlen hq2.cells (fun x => World.ownsRow.frozenAt hq2.row x) (by omega) (by omega)).mono ?_
            rintro e w1 ⟨rfl, q3, rfl⟩
            obtain ⟨hq3, hg3'⟩ := hq2.swap k j2 q3
            have hg3 := grown_trans (grown_drew hg1 q2) hg3'
            have hux' : DnEx n (swp ys k j2) j2 := dn_step n ys k j2 (by omega) hux (by omega) hpar'.out (by omega) hmin (by unfold ltAt at hlt2; simpa using hlt2)
            have hp' : (swp ys k j2).Perm zs := (swp_perm ys k j2 (by omega) (by omega)).trans hp
            have ht' : Tail n (swp ys k j2) zs := tail_swp ht (by omega) (by omega) (by omega)
            generalize swp ys k j2 = ys' at hq3 hux' hp' ht'
            generalize (((_ : World).setCell ⟨g, j2, none⟩ _).drewN q3) = w3 at hq3 hg3 ⊢
            clear hms hen hg3' hq2 hlt2
            go_wp2_with fail
            go_roundw
            case rel => exact ⟨j2, ys', rfl, by omega, hp', hux', ht', hq3, hg3⟩
            case measure => simp [intOf]; omega
          · go_wp2_with fail
            all_goals go_ret
            all_goals refine ⟨⟨_, rfl⟩, ys, hp, dn_stop _ _ _ hux (fun c c0 c1 c2 => ?_), ht, hq1.drew q2, grown_drew hg1 q2⟩
            all_goals
              have h1 := hmin c c0 c1 c2
              unfold ltAt at hlt2; simp at hlt2
              simp [List.getD_eq_getElem?_getD] at *
              omega
        · have hmin : ∀ c, 0 < c → c < n → (c - 1) / 2 = k → ys.getD j1 0 ≤ ys.getD c 0 := fun c c0 c1 c2 => by
            have a1 := hj1'.out
            have a2 := hj2'.out
            have h1 : c = j1 ∨ c = j2 := by omega
            have h2 : ys.getD j1 0 ≤ ys.getD j2 0 := by unfold ltAt at hlt; simpa using hlt
            rcases h1 with rfl | rfl
            · exact Int.le_refl _
            · omega
          have hpar : (j1 - 1) / 2 = k := by have a1 := hj1'.out; omega
          have hpar' := Lib.hid hpar
          clear hpar
          have hml2 := meth_less ⟨bq, 2, none⟩ wr1 _ _ _ hq1.cell
          have hen := enter101
          go_wp2_with fail
          refine (less_any g cap ys j1 k wr1 hlen hq1.cells (by omega) (by omega)).mono ?_
          rintro e w1 ⟨rfl, q2, rfl⟩
          clear hml2 hen
          rcases Bool.eq_false_or_eq_true (ltAt ys j1 k) with hlt2 | hlt2
          · have hq2 := hq1.drew q2
            have hms := meth_swap ⟨bq, 2, none⟩ _ _ _ _ hq2.cell
            have hen := enter102
            go_wp2_with fail
            refine (swap_any g cap ys k j1 _ hlen hq2.cells (fun x => World.ownsRow.frozenAt hq2.row x) (by omega) (by omega)).mono ?_
            rintro e w1 ⟨rfl, q3, rfl⟩
            obtain ⟨hq3, hg3'⟩ := hq2.swap k j1 q3
            have hg3 := grown_trans (grown_drew hg1 q2) hg3'
            have hux' : DnEx n (swp ys k j1) j1 := dn_step n ys k j1 (by omega) hux (by omega) hpar'.out (by omega) hmin (by unfold ltAt at hlt2; simpa using hlt2)
            have hp' : (swp ys k j1).Perm zs := (swp_perm ys k j1 (by omega) (by omega)).trans hp
            have ht' : Tail n (swp ys k j1) zs := tail_swp ht (by omega) (by omega) (by omega)
            generalize swp ys k j1 = ys' at hq3 hux' hp' ht'
            generalize (((_ : World).setCell ⟨g, j1, none⟩ _).drewN q3) = w3 at hq3 hg3 ⊢
            clear hms hen hg3' hq2 hlt2
            go_wp2_with fail
            go_roundw
            case rel => exact ⟨j1, ys', rfl, by omega, hp', hux', ht', hq3, hg3⟩
            case measure => simp [intOf]; omega
          · go_wp2_with fail
            all_goals go_ret
            all_goals refine ⟨⟨_, rfl⟩, ys, hp, dn_stop _ _ _ hux (fun c c0 c1 c2 => ?_), ht, hq1.drew q2, grown_drew hg1 q2⟩
            all_goals
              have h1 := hmin c c0 c1 c2
              unfold ltAt at hlt2; simp at hlt2
              simp [List.getD_eq_getElem?_getD] at *
              omega
      · have hmin : ∀ c, 0 < c → c < n → (c - 1) / 2 = k → ys.getD j1 0 ≤ ys.getD c 0 := fun c c0 c1 c2 => by
          have a1 := hj1'.out
          have h1 : c = j1 := by omega
          rw [h1]; exact Int.le_refl _
        have hpar : (j1 - 1) / 2 = k := by have a1 := hj1'.out; omega
        have hpar' := Lib.hid hpar
        clear hpar
        have hml2 := meth_less ⟨bq, 2, none⟩ wr _ _ _ hq.cell
        have hen := enter101
        go_wp2_with fail
        refine (less_any g cap ys j1 k wr hlen hq.cells (by omega) (by omega)).mono ?_
        rintro e w1 ⟨rfl, q2, rfl⟩
        clear hml2 hen
        rcases Bool.eq_false_or_eq_true (ltAt ys j1 k) with hlt2 | hlt2
        · have hq2 := hq.drew q2
          have hms := meth_swap ⟨bq, 2, none⟩ _ _ _ _ hq2.cell
          have hen := enter102
          go_wp2_with fail
          refine (swap_any g cap ys k j1 _ hlen hq2.cells (fun x => World.ownsRow.frozenAt hq2.row x) (by omega) (by omega)).mono ?_
          rintro e w1 ⟨rfl, q3, rfl⟩
          obtain ⟨hq3, hg3'⟩ := hq2.swap k j1 q3
          have hg3 := grown_trans (grown_drew hg q2) hg3'
          have hux' : DnEx n (swp ys k j1) j1 := dn_step n ys k j1 (by omega) hux (by omega) hpar'.out (by omega) hmin (by unfold ltAt at hlt2; simpa using hlt2)
          have hp' : (swp ys k j1).Perm zs := (swp_perm ys k j1 (by omega) (by omega)).trans hp
          have ht' : Tail n (swp ys k j1) zs := tail_swp ht (by omega) (by omega) (by omega)
          generalize swp ys k j1 = ys' at hq3 hux' hp' ht'
          generalize (((_ : World).setCell ⟨g, j1, none⟩ _).drewN q3) = w3 at hq3 hg3 ⊢
          clear hms hen hg3' hq2 hlt2
          go_wp2_with fail
          go_roundw
          case rel => exact ⟨j1, ys', rfl, by omega, hp', hux', ht', hq3, hg3⟩
          case measure => simp [intOf]; omega
        · go_wp2_with fail
          all_goals go_ret
          all_goals refine ⟨⟨_, rfl⟩, ys, hp, dn_stop _ _ _ hux (fun c c0 c1 c2 => ?_), ht, hq.drew q2, grown_drew hg q2⟩
          all_goals
            have h1 := hmin c c0 c1 c2
            unfold ltAt at hlt2; simp at hlt2
            simp [List.getD_eq_getElem?_getD] at *
            omega
    · have hge : n ≤ j1 := by omega
      go_wp2_with fail
      go_ret
      exact ⟨⟨_, rfl⟩, ys, hp, dn_stop _ _ _ hux (fun c c0 c1 c2 => by have a1 := hj1'.out; omega), ht, hq, hg⟩
end Go.Proofs.Ytkicoaphchpngaa
