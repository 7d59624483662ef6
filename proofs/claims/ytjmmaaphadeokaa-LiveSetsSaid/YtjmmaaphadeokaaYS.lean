/- merge, with the closure of choose. -/
import Derived.Test.YtjmmaaphadeokaaYR
namespace Go.Proofs.Ytjmmaaphadeokaa.Ids
open Go.RowKit Go.Lib Go.Sort
set_option linter.unusedVariables false
set_option linter.unusedSimpArgs false
set_option linter.unnecessarySimpa false
set_option maxRecDepth 100000
set_option maxHeartbeats 8000000 in
theorem merge_45 (pc kb : Nat) (sa sb : Value) (zs us : List Int) (w : World) (h : Rd w sa zs) (h' : Rd w sb us) (hva : validB zs = true) (hvb : validB us = true) (hl : zs.length + us.length ≤ 2000) (h1 : w.heap[pc]? = some (.cells #[.slice none 0 0] 23 (0, 0))) (h2 : w.heap[kb]? = some (.cells #[.func (.func 56) #[] #[]] 84 (0, 0))) :
    Calls Try.prog 84 #[sa, sb, .func (.func 85) #[] #[.pointer (some ⟨kb, 0, none⟩), .pointer (some ⟨pc, 0, none⟩)]] w (MPost w pc (chL (fun a b => a || b) (ofL zs) (ofL us))) := by
  have ha := Lib.hid (as_any sa zs w h hva (by omega))
  have hb0 := Lib.hid h'
  have g1 := Lib.hid h1
  have g2 := Lib.hid h2
  have hoa := ofL_len zs
  have hob := ofL_len us
  have hpc := lt_of_block h1
  have hkb := lt_of_block h2
  clear h h' h1 h2
  go_enter Try.func84, Try.ntmps84
  go_wp2_with fail
  refine ha.out.mono ?_
  rintro e w1 ⟨va, rfl, hra, hb1⟩
  have hbn := Lib.hid (as_any sb us w1 (hb0.out.below hb1) hvb (by omega))
  have hra' := Lib.hid hra
  clear hra
  go_wp2_with fail
  refine hbn.out.mono ?_
  rintro e w2 ⟨vb, rfl, hrb, hb2⟩
  have hB := below_up hb1 hb2
  have hm : Mg w2 w2 w2.heap.size pc kb (.func (.func 56) #[] #[]) (fun a b => a || b) (chL (fun a b => a || b) (ofL zs) (ofL us)) va vb (.slice none 0 0) (ofL zs) (ofL us) [] :=
    ⟨rdB_of (hra'.out.below hb2) ((hB.block pc hpc).trans g1.out) (by simp), rdB_of hrb ((hB.block pc hpc).trans g1.out) (by simp), ⟨(hB.block pc hpc).trans g1.out, (hB.block kb hkb).trans g2.out, World.ownsRow_nil _ _ _ _, Nat.lt_of_lt_of_le hpc hB.size, Nat.lt_of_lt_of_le hkb hB.size, Nat.le_refl _⟩, by simp, by simp; omega, FrC.refl _ _ _⟩
  have hB' := Lib.hid hB
  clear hb1 hb2 hB hrb hra' ha hbn hb0 hoa hob g1 g2
  obtain ⟨ls, hls0⟩ : ∃ ls, ls = chL (fun a b => a || b) (ofL zs) (ofL us) := ⟨_, rfl⟩
  rw [← hls0] at hm
  have hls := Lib.hid hls0
  clear hls0
  generalize ofL zs = ps0 at hm
  generalize ofL us = qs0 at hm
  go_wp2_with fail
  go_loopw [0, 1] (fun va vb wr => ∃ (ps qs out : List Int) (v : Value), Mg w2 wr w2.heap.size pc kb (.func (.func 56) #[] #[]) (fun a b => a || b) ls va vb v ps qs out) (fun va vb _ => lenV va + lenV vb)
  case atStart => exact ⟨_, _, _, _, hm⟩
  case round =>
    clear hm
    obtain ⟨ps, qs, out, v, hM⟩ := hrel
    have hlen := hM.len
    have hM' := Lib.hid hM
    rcases ps with _ | ⟨x, ps⟩
    · obtain ⟨a1, c1, rfl⟩ := hM.a.nil
      rcases qs with _ | ⟨y, bs⟩
      · obtain ⟨a2, c2, rfl⟩ := hM.b.nil
        clear hM
        go_wp2_with fail
        go_end0
        have hs := hM'.out.sum
        rw [chL_nn, List.append_nil] at hs
        exact ⟨rfl, v, hM'.out.ch.blk, by rw [← hls.out, ← hs]; exact own_weak hM'.out.ch.row hB'.out.size, (below_frc hB'.out).trans (hM'.out.fr.mono hB'.out.size)⟩
      · obtain ⟨b2, o2, k2, rfl, hk2, hy, ht2⟩ := hM.b.cons
        have ht2' := Lib.hid ht2
        clear ht2
        clear hM
        by_cases hq2 : k2 = 1
        · subst hq2
          obtain rfl : bs = [] := List.eq_nil_of_length_eq_zero (by omega)
          have hlo : out.length ≤ 2000 := by simp at hlen; omega
          clear hlen
          go_wp2_with fail
          go_quiet (fail)
          go_wp2_with fail
          go_quiet (fail)
          go_wp2_with fail
          go_quiet (fail)
          go_wp2_with (go_at_call 85; refine (visit_45 w2.heap.size pc kb v out y false true _ (ch_drawn hM'.out.ch ⟨_, by (try simp only [drewN_add]); rfl⟩) hlo).mono ?_; rintro e w' ⟨rfl, hp⟩; have hp' := Lib.hid hp; clear hp)
          obtain ⟨v', out', hM2⟩ := hM'.out.step (va' := .slice a1 0 c1) (vb' := .slice (some ⟨b2, o2, none⟩) 0 0) (ps' := []) (qs' := []) (c := (false || true)) (x := y) ⟨_, by (try simp only [drewN_add]); rfl⟩ hp'.out hM'.out.a (.inl ⟨_, _, rfl, rfl⟩) (chL_nc _ _ _) (by simp; try omega)
          have hM2' := Lib.hid hM2
          clear hM2
          go_roundw
          case rel => exact ⟨[], [], out', v', hM2'.out⟩
          case measure => first | (simp [lenV]; done) | (simp [lenV]; omega)
        · have hkk := hq2
          have d3 : (((bs.length + 1 : Nat) : Int) == 0) = false := by rw [beq_eq_false_iff_ne]; omega
          have d4 : (((bs.length : Nat) : Int) + 1 == 0) = false := by rw [beq_eq_false_iff_ne]; omega
          have hlq : bs.length ≤ 2000 := by simp at hlen; omega
          have hlo : out.length ≤ 2000 := by simp at hlen; omega
          clear hlen
          generalize hnb : bs.length = nb at *
          have hnb' := Lib.hid hnb
          clear hnb
          go_wp2_with fail
          go_quiet (fail)
          go_wp2_with fail
          go_quiet (fail)
          go_wp2_with fail
          go_quiet (fail)
          go_wp2_with (go_at_call 85; refine (visit_45 w2.heap.size pc kb v out y false true _ (ch_drawn hM'.out.ch ⟨_, by (try simp only [drewN_add]); rfl⟩) hlo).mono ?_; rintro e w' ⟨rfl, hp⟩; have hp' := Lib.hid hp; clear hp)
          obtain ⟨v', out', hM2⟩ := hM'.out.step (va' := .slice a1 0 c1) (vb' := .slice (some ⟨b2, o2 + 1, none⟩) nb (k2 - 1)) (ps' := []) (qs' := bs) (c := (false || true)) (x := y) ⟨_, by (try simp only [drewN_add]); rfl⟩ hp'.out hM'.out.a (ht2'.out hq2) (chL_nc _ _ _) (by simp; try omega)
          have hM2' := Lib.hid hM2
          clear hM2
          go_roundw
          case rel => exact ⟨[], bs, out', v', hM2'.out⟩
          case measure => first | (simp [lenV]; done) | (simp [lenV]; omega)
    · rcases qs with _ | ⟨y, bs⟩
      · obtain ⟨a2, c2, rfl⟩ := hM.b.nil
        obtain ⟨b1, o1, k1, rfl, hk1, hx, ht1⟩ := hM.a.cons
        have ht1' := Lib.hid ht1
        clear ht1
        clear hM
        by_cases hq1 : k1 = 1
        · subst hq1
          obtain rfl : ps = [] := List.eq_nil_of_length_eq_zero (by omega)
          have hlo : out.length ≤ 2000 := by simp at hlen; omega
          clear hlen
          go_wp2_with fail
          go_quiet (fail)
          go_wp2_with fail
          go_quiet (fail)
          go_wp2_with fail
          go_quiet (fail)
          go_wp2_with (go_at_call 85; refine (visit_45 w2.heap.size pc kb v out x true false _ (ch_drawn hM'.out.ch ⟨_, by (try simp only [drewN_add]); rfl⟩) hlo).mono ?_; rintro e w' ⟨rfl, hp⟩; have hp' := Lib.hid hp; clear hp)
          obtain ⟨v', out', hM2⟩ := hM'.out.step (va' := .slice (some ⟨b1, o1, none⟩) 0 0) (vb' := .slice a2 0 c2) (ps' := []) (qs' := []) (c := (true || false)) (x := x) ⟨_, by (try simp only [drewN_add]); rfl⟩ hp'.out (.inl ⟨_, _, rfl, rfl⟩) hM'.out.b (chL_cn _ _ _) (by simp; try omega)
          have hM2' := Lib.hid hM2
          clear hM2
          go_roundw
          case rel => exact ⟨[], [], out', v', hM2'.out⟩
          case measure => first | (simp [lenV]; done) | (simp [lenV]; omega)
        · have hkk := hq1
          have d1 : (((ps.length + 1 : Nat) : Int) == 0) = false := by rw [beq_eq_false_iff_ne]; omega
          have d2 : (((ps.length : Nat) : Int) + 1 == 0) = false := by rw [beq_eq_false_iff_ne]; omega
          have hlp : ps.length ≤ 2000 := by simp at hlen; omega
          have hlo : out.length ≤ 2000 := by simp at hlen; omega
          clear hlen
          generalize hna : ps.length = na at *
          have hna' := Lib.hid hna
          clear hna
          go_wp2_with fail
          go_quiet (fail)
          go_wp2_with fail
          go_quiet (fail)
          go_wp2_with fail
          go_quiet (fail)
          go_wp2_with (go_at_call 85; refine (visit_45 w2.heap.size pc kb v out x true false _ (ch_drawn hM'.out.ch ⟨_, by (try simp only [drewN_add]); rfl⟩) hlo).mono ?_; rintro e w' ⟨rfl, hp⟩; have hp' := Lib.hid hp; clear hp)
          obtain ⟨v', out', hM2⟩ := hM'.out.step (va' := .slice (some ⟨b1, o1 + 1, none⟩) na (k1 - 1)) (vb' := .slice a2 0 c2) (ps' := ps) (qs' := []) (c := (true || false)) (x := x) ⟨_, by (try simp only [drewN_add]); rfl⟩ hp'.out (ht1'.out hq1) hM'.out.b (chL_cn _ _ _) (by simp; try omega)
          have hM2' := Lib.hid hM2
          clear hM2
          go_roundw
          case rel => exact ⟨ps, [], out', v', hM2'.out⟩
          case measure => first | (simp [lenV]; done) | (simp [lenV]; omega)
      · obtain ⟨b1, o1, k1, rfl, hk1, hx, ht1⟩ := hM.a.cons
        have ht1' := Lib.hid ht1
        clear ht1
        obtain ⟨b2, o2, k2, rfl, hk2, hy, ht2⟩ := hM.b.cons
        have ht2' := Lib.hid ht2
        clear ht2
        clear hM
        rcases Int.lt_trichotomy x y with hxy | hxy | hxy
        · by_cases hq1 : k1 = 1
          · subst hq1
            obtain rfl : ps = [] := List.eq_nil_of_length_eq_zero (by omega)
            have d3 : (((bs.length + 1 : Nat) : Int) == 0) = false := by rw [beq_eq_false_iff_ne]; omega
            have d4 : (((bs.length : Nat) : Int) + 1 == 0) = false := by rw [beq_eq_false_iff_ne]; omega
            have hlq : bs.length ≤ 2000 := by simp at hlen; omega
            have hlo : out.length ≤ 2000 := by simp at hlen; omega
            clear hlen
            generalize hnb : bs.length = nb at *
            have hnb' := Lib.hid hnb
            clear hnb
            have e1 : decide (x ≤ y) = true := by rw [decide_eq_true_iff]; omega
            have e2 : decide (y ≤ x) = false := by rw [decide_eq_false_iff_not]; omega
            go_wp2_with fail
            go_quiet (fail)
            go_wp2_with fail
            go_quiet (fail)
            go_wp2_with fail
            go_quiet (fail)
            go_wp2_with (go_at_call 85; refine (visit_45 w2.heap.size pc kb v out x true false _ (ch_drawn hM'.out.ch ⟨_, by (try simp only [drewN_add]); rfl⟩) hlo).mono ?_; rintro e w' ⟨rfl, hp⟩; have hp' := Lib.hid hp; clear hp)
            obtain ⟨v', out', hM2⟩ := hM'.out.step (va' := .slice (some ⟨b1, o1, none⟩) 0 0) (vb' := .slice (some ⟨b2, o2, none⟩) (nb + 1) k2) (ps' := []) (qs' := (y :: bs)) (c := (true || false)) (x := x) ⟨_, by (try simp only [drewN_add]); rfl⟩ hp'.out (.inl ⟨_, _, rfl, rfl⟩) hM'.out.b (chL_lt _ _ _ hxy) (by simp; try omega)
            have hM2' := Lib.hid hM2
            clear hM2
            go_roundw
            case rel => exact ⟨[], (y :: bs), out', v', hM2'.out⟩
            case measure => first | (simp [lenV]; done) | (simp [lenV]; omega)
          · have hkk := hq1
            have d1 : (((ps.length + 1 : Nat) : Int) == 0) = false := by rw [beq_eq_false_iff_ne]; omega
            have d2 : (((ps.length : Nat) : Int) + 1 == 0) = false := by rw [beq_eq_false_iff_ne]; omega
            have hlp : ps.length ≤ 2000 := by simp at hlen; omega
            have d3 : (((bs.length + 1 : Nat) : Int) == 0) = false := by rw [beq_eq_false_iff_ne]; omega
            have d4 : (((bs.length : Nat) : Int) + 1 == 0) = false := by rw [beq_eq_false_iff_ne]; omega
            have hlq : bs.length ≤ 2000 := by simp at hlen; omega
            have hlo : out.length ≤ 2000 := by simp at hlen; omega
            clear hlen
            generalize hna : ps.length = na at *
            have hna' := Lib.hid hna
            clear hna
            generalize hnb : bs.length = nb at *
            have hnb' := Lib.hid hnb
            clear hnb
            have e1 : decide (x ≤ y) = true := by rw [decide_eq_true_iff]; omega
            have e2 : decide (y ≤ x) = false := by rw [decide_eq_false_iff_not]; omega
            go_wp2_with fail
            go_quiet (fail)
            go_wp2_with fail
            go_quiet (fail)
            go_wp2_with fail
            go_quiet (fail)
            go_wp2_with (go_at_call 85; refine (visit_45 w2.heap.size pc kb v out x true false _ (ch_drawn hM'.out.ch ⟨_, by (try simp only [drewN_add]); rfl⟩) hlo).mono ?_; rintro e w' ⟨rfl, hp⟩; have hp' := Lib.hid hp; clear hp)
            obtain ⟨v', out', hM2⟩ := hM'.out.step (va' := .slice (some ⟨b1, o1 + 1, none⟩) na (k1 - 1)) (vb' := .slice (some ⟨b2, o2, none⟩) (nb + 1) k2) (ps' := ps) (qs' := (y :: bs)) (c := (true || false)) (x := x) ⟨_, by (try simp only [drewN_add]); rfl⟩ hp'.out (ht1'.out hq1) hM'.out.b (chL_lt _ _ _ hxy) (by simp; try omega)
            have hM2' := Lib.hid hM2
            clear hM2
            go_roundw
            case rel => exact ⟨ps, (y :: bs), out', v', hM2'.out⟩
            case measure => first | (simp [lenV]; done) | (simp [lenV]; omega)
        · subst hxy
          by_cases hq1 : k1 = 1
          · subst hq1
            obtain rfl : ps = [] := List.eq_nil_of_length_eq_zero (by omega)
            by_cases hq2 : k2 = 1
            · subst hq2
              obtain rfl : bs = [] := List.eq_nil_of_length_eq_zero (by omega)
              have hlo : out.length ≤ 2000 := by simp at hlen; omega
              clear hlen
              go_wp2_with fail
              go_quiet (fail)
              go_wp2_with fail
              go_quiet (fail)
              go_wp2_with fail
              go_quiet (fail)
              go_wp2_with fail
              go_quiet (fail)
              go_wp2_with (go_at_call 85; refine (visit_45 w2.heap.size pc kb v out x true true _ (ch_drawn hM'.out.ch ⟨_, by (try simp only [drewN_add]); rfl⟩) hlo).mono ?_; rintro e w' ⟨rfl, hp⟩; have hp' := Lib.hid hp; clear hp)
              obtain ⟨v', out', hM2⟩ := hM'.out.step (va' := .slice (some ⟨b1, o1, none⟩) 0 0) (vb' := .slice (some ⟨b2, o2, none⟩) 0 0) (ps' := []) (qs' := []) (c := (true || true)) (x := x) ⟨_, by (try simp only [drewN_add]); rfl⟩ hp'.out (.inl ⟨_, _, rfl, rfl⟩) (.inl ⟨_, _, rfl, rfl⟩) (chL_eq _ _ _ _) (by simp; try omega)
              have hM2' := Lib.hid hM2
              clear hM2
              go_roundw
              case rel => exact ⟨[], [], out', v', hM2'.out⟩
              case measure => first | (simp [lenV]; done) | (simp [lenV]; omega)
            · have hkk := hq2
              have d3 : (((bs.length + 1 : Nat) : Int) == 0) = false := by rw [beq_eq_false_iff_ne]; omega
              have d4 : (((bs.length : Nat) : Int) + 1 == 0) = false := by rw [beq_eq_false_iff_ne]; omega
              have hlq : bs.length ≤ 2000 := by simp at hlen; omega
              have hlo : out.length ≤ 2000 := by simp at hlen; omega
              clear hlen
              generalize hnb : bs.length = nb at *
              have hnb' := Lib.hid hnb
              clear hnb
              go_wp2_with fail
              go_quiet (fail)
              go_wp2_with fail
              go_quiet (fail)
              go_wp2_with fail
              go_quiet (fail)
              go_wp2_with fail
              go_quiet (fail)
              go_wp2_with (go_at_call 85; refine (visit_45 w2.heap.size pc kb v out x true true _ (ch_drawn hM'.out.ch ⟨_, by (try simp only [drewN_add]); rfl⟩) hlo).mono ?_; rintro e w' ⟨rfl, hp⟩; have hp' := Lib.hid hp; clear hp)
              obtain ⟨v', out', hM2⟩ := hM'.out.step (va' := .slice (some ⟨b1, o1, none⟩) 0 0) (vb' := .slice (some ⟨b2, o2 + 1, none⟩) nb (k2 - 1)) (ps' := []) (qs' := bs) (c := (true || true)) (x := x) ⟨_, by (try simp only [drewN_add]); rfl⟩ hp'.out (.inl ⟨_, _, rfl, rfl⟩) (ht2'.out hq2) (chL_eq _ _ _ _) (by simp; try omega)
              have hM2' := Lib.hid hM2
              clear hM2
              go_roundw
              case rel => exact ⟨[], bs, out', v', hM2'.out⟩
              case measure => first | (simp [lenV]; done) | (simp [lenV]; omega)
          · have hkk := hq1
            by_cases hq2 : k2 = 1
            · subst hq2
              obtain rfl : bs = [] := List.eq_nil_of_length_eq_zero (by omega)
              have d1 : (((ps.length + 1 : Nat) : Int) == 0) = false := by rw [beq_eq_false_iff_ne]; omega
              have d2 : (((ps.length : Nat) : Int) + 1 == 0) = false := by rw [beq_eq_false_iff_ne]; omega
              have hlp : ps.length ≤ 2000 := by simp at hlen; omega
              have hlo : out.length ≤ 2000 := by simp at hlen; omega
              clear hlen
              generalize hna : ps.length = na at *
              have hna' := Lib.hid hna
              clear hna
              go_wp2_with fail
              go_quiet (fail)
              go_wp2_with fail
              go_quiet (fail)
              go_wp2_with fail
              go_quiet (fail)
              go_wp2_with fail
              go_quiet (fail)
              go_wp2_with (go_at_call 85; refine (visit_45 w2.heap.size pc kb v out x true true _ (ch_drawn hM'.out.ch ⟨_, by (try simp only [drewN_add]); rfl⟩) hlo).mono ?_; rintro e w' ⟨rfl, hp⟩; have hp' := Lib.hid hp; clear hp)
              obtain ⟨v', out', hM2⟩ := hM'.out.step (va' := .slice (some ⟨b1, o1 + 1, none⟩) na (k1 - 1)) (vb' := .slice (some ⟨b2, o2, none⟩) 0 0) (ps' := ps) (qs' := []) (c := (true || true)) (x := x) ⟨_, by (try simp only [drewN_add]); rfl⟩ hp'.out (ht1'.out hq1) (.inl ⟨_, _, rfl, rfl⟩) (chL_eq _ _ _ _) (by simp; try omega)
              have hM2' := Lib.hid hM2
              clear hM2
              go_roundw
              case rel => exact ⟨ps, [], out', v', hM2'.out⟩
              case measure => first | (simp [lenV]; done) | (simp [lenV]; omega)
            · have hkk := hq2
              have d1 : (((ps.length + 1 : Nat) : Int) == 0) = false := by rw [beq_eq_false_iff_ne]; omega
              have d2 : (((ps.length : Nat) : Int) + 1 == 0) = false := by rw [beq_eq_false_iff_ne]; omega
              have hlp : ps.length ≤ 2000 := by simp at hlen; omega
              have d3 : (((bs.length + 1 : Nat) : Int) == 0) = false := by rw [beq_eq_false_iff_ne]; omega
              have d4 : (((bs.length : Nat) : Int) + 1 == 0) = false := by rw [beq_eq_false_iff_ne]; omega
              have hlq : bs.length ≤ 2000 := by simp at hlen; omega
              have hlo : out.length ≤ 2000 := by simp at hlen; omega
              clear hlen
              generalize hna : ps.length = na at *
              have hna' := Lib.hid hna
              clear hna
              generalize hnb : bs.length = nb at *
              have hnb' := Lib.hid hnb
              clear hnb
              go_wp2_with fail
              go_quiet (fail)
              go_wp2_with fail
              go_quiet (fail)
              go_wp2_with fail
              go_quiet (fail)
              go_wp2_with fail
              go_quiet (fail)
              go_wp2_with (go_at_call 85; refine (visit_45 w2.heap.size pc kb v out x true true _ (ch_drawn hM'.out.ch ⟨_, by (try simp only [drewN_add]); rfl⟩) hlo).mono ?_; rintro e w' ⟨rfl, hp⟩; have hp' := Lib.hid hp; clear hp)
              obtain ⟨v', out', hM2⟩ := hM'.out.step (va' := .slice (some ⟨b1, o1 + 1, none⟩) na (k1 - 1)) (vb' := .slice (some ⟨b2, o2 + 1, none⟩) nb (k2 - 1)) (ps' := ps) (qs' := bs) (c := (true || true)) (x := x) ⟨_, by (try simp only [drewN_add]); rfl⟩ hp'.out (ht1'.out hq1) (ht2'.out hq2) (chL_eq _ _ _ _) (by simp; try omega)
              have hM2' := Lib.hid hM2
              clear hM2
              go_roundw
              case rel => exact ⟨ps, bs, out', v', hM2'.out⟩
              case measure => first | (simp [lenV]; done) | (simp [lenV]; omega)
        · by_cases hq2 : k2 = 1
          · subst hq2
            obtain rfl : bs = [] := List.eq_nil_of_length_eq_zero (by omega)
            have d1 : (((ps.length + 1 : Nat) : Int) == 0) = false := by rw [beq_eq_false_iff_ne]; omega
            have d2 : (((ps.length : Nat) : Int) + 1 == 0) = false := by rw [beq_eq_false_iff_ne]; omega
            have hlp : ps.length ≤ 2000 := by simp at hlen; omega
            have hlo : out.length ≤ 2000 := by simp at hlen; omega
            clear hlen
            generalize hna : ps.length = na at *
            have hna' := Lib.hid hna
            clear hna
            have e1 : decide (x ≤ y) = false := by rw [decide_eq_false_iff_not]; omega
            have e2 : decide (y ≤ x) = true := by rw [decide_eq_true_iff]; omega
            go_wp2_with fail
            go_quiet (fail)
            go_wp2_with fail
            go_quiet (fail)
            go_wp2_with fail
            go_quiet (fail)
            go_wp2_with (go_at_call 85; refine (visit_45 w2.heap.size pc kb v out y false true _ (ch_drawn hM'.out.ch ⟨_, by (try simp only [drewN_add]); rfl⟩) hlo).mono ?_; rintro e w' ⟨rfl, hp⟩; have hp' := Lib.hid hp; clear hp)
            obtain ⟨v', out', hM2⟩ := hM'.out.step (va' := .slice (some ⟨b1, o1, none⟩) (na + 1) k1) (vb' := .slice (some ⟨b2, o2, none⟩) 0 0) (ps' := (x :: ps)) (qs' := []) (c := (false || true)) (x := y) ⟨_, by (try simp only [drewN_add]); rfl⟩ hp'.out hM'.out.a (.inl ⟨_, _, rfl, rfl⟩) (chL_gt _ _ _ hxy) (by simp; try omega)
            have hM2' := Lib.hid hM2
            clear hM2
            go_roundw
            case rel => exact ⟨(x :: ps), [], out', v', hM2'.out⟩
            case measure => first | (simp [lenV]; done) | (simp [lenV]; omega)
          · have hkk := hq2
            have d1 : (((ps.length + 1 : Nat) : Int) == 0) = false := by rw [beq_eq_false_iff_ne]; omega
            have d2 : (((ps.length : Nat) : Int) + 1 == 0) = false := by rw [beq_eq_false_iff_ne]; omega
            have hlp : ps.length ≤ 2000 := by simp at hlen; omega
            have d3 : (((bs.length + 1 : Nat) : Int) == 0) = false := by rw [beq_eq_false_iff_ne]; omega
            have d4 : (((bs.length : Nat) : Int) + 1 == 0) = false := by rw [beq_eq_false_iff_ne]; omega
            have hlq : bs.length ≤ 2000 := by simp at hlen; omega
            have hlo : out.length ≤ 2000 := by simp at hlen; omega
            clear hlen
            generalize hna : ps.length = na at *
            have hna' := Lib.hid hna
            clear hna
            generalize hnb : bs.length = nb at *
            have hnb' := Lib.hid hnb
            clear hnb
            have e1 : decide (x ≤ y) = false := by rw [decide_eq_false_iff_not]; omega
            have e2 : decide (y ≤ x) = true := by rw [decide_eq_true_iff]; omega
            go_wp2_with fail
            go_quiet (fail)
            go_wp2_with fail
            go_quiet (fail)
            go_wp2_with fail
            go_quiet (fail)
            go_wp2_with (go_at_call 85; refine (visit_45 w2.heap.size pc kb v out y false true _ (ch_drawn hM'.out.ch ⟨_, by (try simp only [drewN_add]); rfl⟩) hlo).mono ?_; rintro e w' ⟨rfl, hp⟩; have hp' := Lib.hid hp; clear hp)
            obtain ⟨v', out', hM2⟩ := hM'.out.step (va' := .slice (some ⟨b1, o1, none⟩) (na + 1) k1) (vb' := .slice (some ⟨b2, o2 + 1, none⟩) nb (k2 - 1)) (ps' := (x :: ps)) (qs' := bs) (c := (false || true)) (x := y) ⟨_, by (try simp only [drewN_add]); rfl⟩ hp'.out hM'.out.a (ht2'.out hq2) (chL_gt _ _ _ hxy) (by simp; try omega)
            have hM2' := Lib.hid hM2
            clear hM2
            go_roundw
            case rel => exact ⟨(x :: ps), bs, out', v', hM2'.out⟩
            case measure => first | (simp [lenV]; done) | (simp [lenV]; omega)
end Go.Proofs.Ytjmmaaphadeokaa.Ids
