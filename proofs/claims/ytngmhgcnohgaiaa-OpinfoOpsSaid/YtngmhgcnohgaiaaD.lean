/- The reference's Width. -/
import Derived.Test.YtngmhgcnohgaiaaC
namespace Go.Proofs.Ytngmhgcnohgaiaa
open Go.RowKit
set_option linter.unusedVariables false
theorem below_of_cell {w : World} {p : Addr} {v : Value} (hp : w.cell? p = some v) : p.block < w.heap.size := by
  by_cases hb : p.block < w.heap.size
  · exact hb
  · have : w.heap[p.block]? = none := by simp; omega
    simp [World.cell?, this] at hp
theorem woV_mid (op x v a c : Int) (h1 : 5 ≤ op) (h2 : op ≤ 15) : woV op x v [a, c] = (a, a == c) := by
  simp only [woV]; rw [if_neg (by omega), if_neg (by omega)]
set_option maxRecDepth 100000 in
set_option maxHeartbeats 2000000 in
theorem rwidthf_some (op x v : Int) (b off cap : Nat) (zs : List Int) (w : World) (h0 : 0 ≤ v) (hv : Hid (fitB v 64 = true)) (hl : zs.length ≤ 9223372036854775807) (hc : ∀ k, k < zs.length → w.cell? ⟨b, off + k, none⟩ = some (.int .i64 (zs.getD k 0))) :
    Calls Try.prog 17 #[.int .i64 op, .int .i64 x, .int .u64 v, .slice (some ⟨b, off, none⟩) zs.length cap] w fun e w' => e = .returned (.tuple #[.int .i64 (widthL op x v zs).1, .int .i64 (widthL op x v zs).2]) ∧ Up w w' := by
  by_cases ha : arity op = zs.length
  · have hl3 : zs.length ≤ 3 := by have := (arity_le op).2; omega
    have hne : ((zs.length : Int) != arity op) = false := by rw [ha]; simp
    have h00 : 0 ≤ arity op := by omega
    have ha' := Lib.hid ha
    clear ha
    go_enter Try.func17, Try.ntmps17
    go_wp2_with fail
    refine (rarity_any _ _).mono ?_
    rintro e w1 ⟨rfl, hu1⟩
    go_wp2_with fail
    refine (rarity_any _ _).mono ?_
    rintro e w2 ⟨rfl, hu2⟩
    go_wp2_with fail
    have hu : Up w w2 := hu1.trans hu2
    have hc2 : ∀ k, k < zs.length → w2.cell? ⟨b, off + k, none⟩ = some (.int .i64 (zs.getD k 0)) := fun k hk => hu.cell (hc k hk)
    clear hc hu1 hu2 hne
    go_loop [23] (fun i => ∃ k : Nat, k ≤ zs.length ∧ i = .int .i64 k ∧ allW (zs.take k) = true) (fun i => zs.length - (intOf i).toNat)
    case atStart => exact ⟨0, Nat.zero_le _, rfl, rfl⟩
    case round =>
      obtain ⟨k, hk, rfl, hno⟩ := hrel
      have hno' := Lib.hid hno
      clear hno
      by_cases hlt : k < zs.length
      · have hcell := hc2 k hlt
        go_wp2_with (go_at_call 22; refine (rwidth_any _ _).mono ?_; rintro e w' ⟨rfl, rfl⟩)
        · have h : (!okW zs[k]) = true := by assumption
          go_ret2
          exact ⟨ret2 (by unfold widthL; rw [if_neg (by have := ha'.out; omega), if_pos (allW_bad zs k hlt (by simpa using h))]), hu⟩
        · have h : (!okW zs[k]) = false := by assumption
          go_round
          case rel => exact ⟨k + 1, by omega, by go_num, allW_snoc zs k hlt hno'.out (by simpa using h)⟩
          case measure => simp [intOf]; omega
      · have hz : allW zs = true := by have hno := hno'.out; rw [List.take_of_length_le (by omega)] at hno; exact hno
        have hz' := Lib.hid hz
        clear hz
        rcases shape op zs ha'.out with ⟨h1, h2⟩ | ⟨a, h1, h2⟩ | ⟨a, h1, h2, h3⟩ | ⟨a, c, h1, h2⟩ | ⟨a, c, h1, h2, h3⟩ | ⟨a, c, h1, h2, h3⟩ | ⟨a, c, d, h1, h2⟩
        · have g2 := Lib.hid h2
          have g1 := Lib.hid h1
          clear h2
          go_wp2_with (first | (go_at_call 12; refine (rleaf_any _ _).mono ?_; rintro e w' ⟨rfl, rfl⟩) | (go_at_call 23; refine (rleafw_any _ _ _ _ h0).mono ?_; rintro e w' ⟨rfl, rfl⟩))
          go_ret2
          exact ⟨ret2 (by rw [tail_leaf op x v zs hv.out ha'.out hz'.out g1.out g2.out]), hu.alloc _ _⟩
        · have hlf : leafB op = false := by unfold leafB; apply decide_eq_false; omega
          have hlen : zs.length = 1 := by rw [h1]; rfl
          have hk2 : 1 ≤ k := by omega
          have c0 : w2.cell? ⟨b, off, none⟩ = some (.int .i64 a) := by have := hc2 0 (by omega); simpa [h1] using this
          have hb := below_of_cell c0
          have g1 := Lib.hid h1
          have ga : 0 ≤ a ∧ a ≤ 64 := by have := hz'.out; rw [h1] at this; simpa [allW, okW_iff] using this
          obtain ⟨ga0, ga1⟩ := ga
          clear h1 hc2 hlt hk hl
          rcases h2 with rfl | rfl | rfl
          all_goals
            go_wp2_with (first | (go_at_call 12; refine (rleaf_any _ _).mono ?_; rintro e w' ⟨rfl, rfl⟩) | (go_at_call 24; refine (rparts_any _ _ _ _ _ h0 (by omega) (by omega)).mono ?_; rintro e w' ⟨rfl, rfl⟩))
            go_ret2
            exact ⟨ret2 (by rw [g1.out, tail_same _ x v a (g1.out ▸ hz'.out) (by omega)]), hu.alloc _ _⟩
        · have hlf : leafB op = false := by unfold leafB; apply decide_eq_false; omega
          have hlen : zs.length = 1 := by rw [h1]; rfl
          have hk2 : 1 ≤ k := by omega
          have c0 : w2.cell? ⟨b, off, none⟩ = some (.int .i64 a) := by have := hc2 0 (by omega); simpa [h1] using this
          have hb := below_of_cell c0
          have g1 := Lib.hid h1
          have ga : 0 ≤ a ∧ a ≤ 64 := by have := hz'.out; rw [h1] at this; simpa [allW, okW_iff] using this
          obtain ⟨ga0, ga1⟩ := ga
          clear h1 hc2 hlt hk hl
          have ho : op = 21 ∨ op = 22 ∨ op = 23 := by omega
          clear h2 h3
          rcases ho with rfl | rfl | rfl
          all_goals
            go_wp2_with (first | (go_at_call 12; refine (rleaf_any _ _).mono ?_; rintro e w' ⟨rfl, rfl⟩) | (go_at_call 24; refine (rparts_any _ _ _ _ _ h0 (by omega) (by omega)).mono ?_; rintro e w' ⟨rfl, rfl⟩))
            go_ret2
            exact ⟨ret2 (by rw [g1.out, tail_parts _ x v a (g1.out ▸ hz'.out) (by omega) (by omega)]), hu.alloc _ _⟩
        · subst h2
          have hlf : leafB 20 = false := by decide
          have hlen : zs.length = 2 := by rw [h1]; rfl
          have hk2 : 2 ≤ k := by omega
          have c0 : w2.cell? ⟨b, off, none⟩ = some (.int .i64 a) := by have := hc2 0 (by omega); simpa [h1] using this
          have c1 : w2.cell? ⟨b, off + 1, none⟩ = some (.int .i64 c) := by have := hc2 1 (by omega); simpa [h1] using this
          have hb := below_of_cell c0
          have g1 := Lib.hid h1
          have ga : (0 ≤ a ∧ a ≤ 64) ∧ (0 ≤ c ∧ c ≤ 64) := by have := hz'.out; rw [h1] at this; simpa [allW, okW_iff] using this
          obtain ⟨⟨ga0, ga1⟩, gc0, gc1⟩ := ga
          clear h1 hc2 hlt hk hl
          go_wp2_with (first | (go_at_call 12; refine (rleaf_any _ _).mono ?_; rintro e w' ⟨rfl, rfl⟩) | (go_at_call 24; refine (rparts_any _ _ _ _ _ h0 (by omega) (by omega)).mono ?_; rintro e w' ⟨rfl, rfl⟩))
          by_cases ka : a < 1
          · go_quiet (fail)
            go_wp2
            go_ret2
            exact ⟨ret2 (by rw [g1.out, tail_two _ x v a c (g1.out ▸ hz'.out) (by omega)]; simp [woV]; omega), (hu.alloc _ _).drewN _⟩
          · by_cases kc : c < 1
            · go_quiet (fail)
              go_wp2
              go_ret2
              exact ⟨ret2 (by rw [g1.out, tail_two _ x v a c (g1.out ▸ hz'.out) (by omega)]; simp [woV]; omega), (hu.alloc _ _).drewN _⟩
            · by_cases kac : 64 < a + c
              · go_quiet (fail)
                go_wp2
                go_ret2
                exact ⟨ret2 (by rw [g1.out, tail_two _ x v a c (g1.out ▸ hz'.out) (by omega)]; simp [woV, okW]; omega), (hu.alloc _ _).drewN _⟩
              · go_quiet (fail)
                go_wp2
                go_quiet (fail)
                go_wp2
                go_ret2
                exact ⟨ret2 (by rw [g1.out, tail_two _ x v a c (g1.out ▸ hz'.out) (by omega)]; simp [woV, okW]; omega), ((hu.alloc _ _).drewN _).drewN _⟩
        · have hlf : leafB op = false := by unfold leafB; apply decide_eq_false; omega
          have hlen : zs.length = 2 := by rw [h1]; rfl
          have hk2 : 2 ≤ k := by omega
          have c0 : w2.cell? ⟨b, off, none⟩ = some (.int .i64 a) := by have := hc2 0 (by omega); simpa [h1] using this
          have c1 : w2.cell? ⟨b, off + 1, none⟩ = some (.int .i64 c) := by have := hc2 1 (by omega); simpa [h1] using this
          have hb := below_of_cell c0
          have g1 := Lib.hid h1
          have ga : (0 ≤ a ∧ a ≤ 64) ∧ (0 ≤ c ∧ c ≤ 64) := by have := hz'.out; rw [h1] at this; simpa [allW, okW_iff] using this
          obtain ⟨⟨ga0, ga1⟩, gc0, gc1⟩ := ga
          clear h1 hc2 hlt hk hl
          have ho : op = 16 ∨ op = 17 ∨ op = 18 := by omega
          clear h2 h3
          rcases ho with rfl | rfl | rfl
          all_goals
            go_wp2_with (first | (go_at_call 12; refine (rleaf_any _ _).mono ?_; rintro e w' ⟨rfl, rfl⟩) | (go_at_call 24; refine (rparts_any _ _ _ _ _ h0 (by omega) (by omega)).mono ?_; rintro e w' ⟨rfl, rfl⟩))
            by_cases kac : a = c
            · have hd : (a != c) = false := by simpa using kac
              clear kac
              go_quiet (fail)
              go_wp2
              go_ret2
              exact ⟨ret2 (by rw [g1.out, tail_two _ x v a c (g1.out ▸ hz'.out) (by omega)]; simp [woV, bne_eq_false_iff_eq.1 hd]), (hu.alloc _ _).drewN _⟩
            · have hd : (a != c) = true := by simpa using kac
              go_quiet (fail)
              go_wp2
              go_ret2
              exact ⟨ret2 (by rw [g1.out, tail_two _ x v a c (g1.out ▸ hz'.out) (by omega)]; simp [woV, kac]), (hu.alloc _ _).drewN _⟩
        · have hlf : leafB op = false := by unfold leafB; apply decide_eq_false; omega
          have hlen : zs.length = 2 := by rw [h1]; rfl
          have hk2 : 2 ≤ k := by omega
          have c0 : w2.cell? ⟨b, off, none⟩ = some (.int .i64 a) := by have := hc2 0 (by omega); simpa [h1] using this
          have c1 : w2.cell? ⟨b, off + 1, none⟩ = some (.int .i64 c) := by have := hc2 1 (by omega); simpa [h1] using this
          have hb := below_of_cell c0
          have g1 := Lib.hid h1
          have ga : (0 ≤ a ∧ a ≤ 64) ∧ (0 ≤ c ∧ c ≤ 64) := by have := hz'.out; rw [h1] at this; simpa [allW, okW_iff] using this
          obtain ⟨⟨ga0, ga1⟩, gc0, gc1⟩ := ga
          clear h1 hc2 hlt hk hl
          have e21 : (op == 21) = false := by rw [beq_eq_false_iff_ne]; omega
          have e22 : (op == 22) = false := by rw [beq_eq_false_iff_ne]; omega
          have e23 : (op == 23) = false := by rw [beq_eq_false_iff_ne]; omega
          have e16 : (op == 16) = false := by rw [beq_eq_false_iff_ne]; omega
          have e17 : (op == 17) = false := by rw [beq_eq_false_iff_ne]; omega
          have e18 : (op == 18) = false := by rw [beq_eq_false_iff_ne]; omega
          have e20 : (op == 20) = false := by rw [beq_eq_false_iff_ne]; omega
          have e19 : (op == 19) = false := by rw [beq_eq_false_iff_ne]; omega
          go_wp2_with (first | (go_at_call 12; refine (rleaf_any _ _).mono ?_; rintro e w' ⟨rfl, rfl⟩) | (go_at_call 24; refine (rparts_any _ _ _ _ _ h0 (by omega) (by omega)).mono ?_; rintro e w' ⟨rfl, rfl⟩))
          by_cases kac : a = c
          · have hd : (a != c) = false := by simpa using kac
            clear kac
            go_quiet (fail)
            go_wp2
            go_ret2
            exact ⟨ret2 (by rw [g1.out, tail_two _ x v a c (g1.out ▸ hz'.out) (by omega), woV_mid _ x v a c h2 h3]; simp [bne_eq_false_iff_eq.1 hd]), (hu.alloc _ _).drewN _⟩
          · have hd : (a != c) = true := by simpa using kac
            go_quiet (fail)
            go_wp2
            go_ret2
            exact ⟨ret2 (by rw [g1.out, tail_two _ x v a c (g1.out ▸ hz'.out) (by omega), woV_mid _ x v a c h2 h3]; simp [kac]), (hu.alloc _ _).drewN _⟩
        · subst h2
          have hlf : leafB 19 = false := by decide
          have hlen : zs.length = 3 := by rw [h1]; rfl
          have hk2 : 3 ≤ k := by omega
          have c0 : w2.cell? ⟨b, off, none⟩ = some (.int .i64 a) := by have := hc2 0 (by omega); simpa [h1] using this
          have c1 : w2.cell? ⟨b, off + 1, none⟩ = some (.int .i64 c) := by have := hc2 1 (by omega); simpa [h1] using this
          have c2 : w2.cell? ⟨b, off + 2, none⟩ = some (.int .i64 d) := by have := hc2 2 (by omega); simpa [h1] using this
          have hb := below_of_cell c0
          have g1 := Lib.hid h1
          clear h1 hc2 hlt hk hl
          go_wp2_with (first | (go_at_call 12; refine (rleaf_any _ _).mono ?_; rintro e w' ⟨rfl, rfl⟩) | (go_at_call 24; refine (rparts_any _ _ _ _ _ h0 (by omega) (by omega)).mono ?_; rintro e w' ⟨rfl, rfl⟩))
          by_cases ka : a = 1
          · have ka1 : (a != 1) = false := by simpa using ka
            by_cases kc : c = d
            · have kc1 : (c != d) = false := by simpa using kc
              clear ka kc
              go_quiet (fail)
              go_wp2
              go_ret2
              exact ⟨ret2 (by rw [g1.out, tail_three x v a c d (g1.out ▸ hz'.out), bne_eq_false_iff_eq.1 ka1, bne_eq_false_iff_eq.1 kc1]; simp), (hu.alloc _ _).drewN _⟩
            · have kc1 : (c != d) = true := by simpa using kc
              clear ka
              go_quiet (fail)
              go_wp2
              go_ret2
              exact ⟨ret2 (by rw [g1.out, tail_three x v a c d (g1.out ▸ hz'.out), bne_eq_false_iff_eq.1 ka1]; simp [kc]), (hu.alloc _ _).drewN _⟩
          · have ka1 : (a != 1) = true := by simpa using ka
            go_quiet (fail)
            go_wp2
            go_ret2
            exact ⟨ret2 (by rw [g1.out, tail_three x v a c d (g1.out ▸ hz'.out)]; simp [ka]), (hu.alloc _ _).drewN _⟩
  · have hne : ((zs.length : Int) != arity op) = true := by rw [bne_iff_ne]; omega
    have ha' := Lib.hid ha
    clear ha
    go_enter Try.func17, Try.ntmps17
    go_wp2_with fail
    refine (rarity_any _ _).mono ?_
    rintro e w1 ⟨rfl, hu1⟩
    go_wp2_with fail
    · refine (rarity_any _ _).mono ?_
      rintro e w2 ⟨rfl, hu2⟩
      go_wp2_with fail
      go_ret2
      exact ⟨ret2 (by unfold widthL; rw [if_pos ha'.out]), hu1.trans hu2⟩
    · go_ret2
      exact ⟨ret2 (by unfold widthL; rw [if_pos ha'.out]), hu1⟩
end Go.Proofs.Ytngmhgcnohgaiaa
