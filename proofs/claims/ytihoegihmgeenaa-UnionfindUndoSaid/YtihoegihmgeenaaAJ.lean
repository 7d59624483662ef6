/- The law's agree. -/
import Derived.Test.YtihoegihmgeenaaAH
import Derived.Outline
namespace Go.Proofs.Ytihoegihmgeenaa
open Go.RowKit
set_option linter.unusedVariables false
set_option linter.unusedSimpArgs false
theorem fl_le (P : Nat → Bool) (k : Nat) : (fl P k).length ≤ k := fl_len P k
set_option maxRecDepth 100000 in
set_option maxHeartbeats 8000000 in
theorem agree_any (B b : Nat) (h : List HOp) (F : Nat → Prop) (lv : Value) (l : List ROp) (w : World) (k : Both w B b h F lv l) (hs : h.length ≤ 1000) :
    Calls Try.prog 11 #[.pointer (some ⟨b, 0, none⟩), lv] w fun e w' => e = .returned (.bool true) ∧ Below w.heap.size w w' := by
  have hlab := Lib.hid (k.o.labels hs)
  have hn := nE_le h
  have hl := M_len h l k.o.m
  obtain ⟨p, c, rfl⟩ := own_shape k.o.own
  have K := Lib.hid k
  have hlen := Lib.hid (len_labs h)
  have hll : l.length = h.length := hl
  have HLL := Lib.hid hll
  clear k hl hll
  go_enter Try.func11, Try.ntmps11
  go_wp2_with fail
  refine hlab.out.mono ?_
  rintro e w1 ⟨v, rfl, ov, hb1⟩
  rw [hlen.out] at ov
  obtain ⟨q, d, rfl⟩ := own_shape ov
  have k1 := K.out.below hb1
  have hln := Lib.hid (len_any B b h F w1 k1.u)
  have hmk := mark_any B b h F w1 k1.u
  rw [← HLL.out] at hmk
  have Hmk := Lib.hid hmk
  have hrt := Lib.hid (roots_any B b h F w1 k1.u hs)
  have K1 := Lib.hid k1
  have Hb1 := Lib.hid hb1
  have Hov := Lib.hid ov
  clear ov hb1 k1 hlab hmk
  go_wp2_with fail
  refine hln.out.mono ?_
  rintro e w' ⟨rfl, rfl⟩
  go_wp2_with fail
  refine Hmk.out.mono ?_
  rintro e w' ⟨rfl, rfl⟩
  go_wp2_with fail
  refine hrt.out.mono ?_
  rintro e w2 ⟨v2, rfl, o2, hb2⟩
  have hrr := Lib.hid (rroots_any B _ l h w2 (K1.out.o.below hb2) hs)
  have R2 := Lib.hid (Rd.own o2)
  have Hb2 := Lib.hid hb2
  clear o2 hb2 hrt hln Hmk
  go_wp2_with fail
  refine hrr.out.mono ?_
  rintro e w3 ⟨v3, rfl, o3, hb3⟩
  have hsm := rsame_any v2 v3 _ _ w3 (R2.out.below hb3) (Rd.own o3) (by rw [len_ints]; have := fl_le (isRoot h) (nE h); omega)
  rw [show eqB (ints (fl (isRoot h) (nE h))) (ints (fl (isRoot h) (nE h))) = true by simp [eqB]] at hsm
  have Hsm := Lib.hid hsm
  have Hb3 := Lib.hid (below_chain Hb2.out hb3)
  clear o3 hb3 hsm hrr R2 Hb2
  go_wp2_with fail
  refine Hsm.out.mono ?_
  rintro e w4 ⟨rfl, q4, rfl⟩
  have hbk : BK w1 (w3.drewN q4) := below_drawn Hb3.out q4
  have Hbk := Lib.hid hbk
  clear hbk Hsm
  go_wp2_with fail
  go_loopw [32] (fun i wr => ∃ k : Nat, k ≤ nE h ∧ i = .int .i64 k ∧ BK w1 wr) (fun i _ => nE h - (intOf i).toNat)
  case atStart => exact ⟨0, Nat.zero_le _, rfl, Hbk.out⟩
  case round =>
    obtain ⟨k, hk, rfl, hbk⟩ := hrel
    by_cases hkl : k < nE h
    · obtain ⟨g, c', hpv, _⟩ := World.ownsRow.form Hov.out (by omega)
      cases hpv
      have ck := int_cell Hov.out k hkl
      rw [labs_at h k hkl] at ck
      have hgl : g < w1.heap.size := (Hov.out.lt g rfl).2
      have KC : Hid (∀ w', BK w1 w' → w'.cell? ⟨g, k, none⟩ = some (.int .i64 (lab h k : Nat))) := Lib.hid (fun w' hb => (Below.cell (p := ⟨g, k, none⟩) hb hgl).trans ck)
      have L := looks B b h F _ l k k w1 K1.out hs
      have c18 : Hid (∀ wc, BK w1 wc → Calls Try.prog 18 #[.pointer (some ⟨b, 0, none⟩), .int .i64 k] wc fun e w' => e = .returned (.int .i64 (lab h k : Nat)) ∧ BK w1 w') := Lib.hid (fun wc hb => by
        have := L.c18 wc hb
        rw [find_nat h k hkl] at this; exact this)
      have HL := Lib.hid L
      have hki : (k : Int) < (nE h : Int) := by omega
      have hki0 : (0 : Int) ≤ (k : Int) := by omega
      have hc0 := KC.out wr hbk
      clear L ck
      generalize hz : lab h k = z at KC c18 hc0
      have Hz := Lib.hid hz
      clear hz
      go_wp2_with fail
      go_region_held3 (fun w' => w'.cell? ⟨g, k, none⟩ = some (.int .i64 (z : Nat)))
        (first | go_keep | exact KC.out _ (by first | assumption | exact kd_drew (by assumption)))
        (first | (go_at_call 18; refine (c18.out _ (by first | assumption | exact kd_drew (by assumption))).mono ?_; rintro e w' ⟨rfl, hb'⟩) | (go_at_call 20; refine (HL.out.c20 _ (by first | assumption | exact kd_drew (by assumption))).mono ?_; rintro e w' ⟨v, rfl, hb', hrd⟩) | (go_at_call 25; refine (HL.out.c25 _ _ (by first | assumption | exact kd_drew (by assumption)) (by assumption)).mono ?_; rintro e w' ⟨v2, rfl, hb', hrd1, hrd2⟩) | (go_at_call 23; refine (HL.out.c23 _ _ _ (by first | assumption | exact kd_drew (by assumption)) (by assumption) (by assumption)).mono ?_; rintro e w' ⟨rfl, hb'⟩))
      go_wp2_with fail
      have hbw : BK w1 w' := by assumption
      obtain ⟨wo, hwo⟩ : ∃ wo : World, wo = w' := ⟨_, rfl⟩
      have Hbw := Lib.hid hbw
      clear hbw hwo wo
      go_loopw [55] (fun i wr => ∃ j : Nat, j ≤ nE h ∧ i = .int .i64 j ∧ BK w1 wr) (fun i _ => nE h - (intOf i).toNat)
      case atStart => exact ⟨0, Nat.zero_le _, rfl, Hbw.out⟩
      case round =>
        obtain ⟨j, hj, rfl, hbj⟩ := hrel
        by_cases hjl : j < nE h
        · have cj : wr.cell? ⟨g, j, none⟩ = some (.int .i64 (lab h j : Nat)) := by
            have := int_cell Hov.out j hjl
            rw [labs_at h j hjl] at this
            exact (Below.cell (p := ⟨g, j, none⟩) hbj hgl).trans this
          have ci := KC.out wr hbj
          have hsame := fun q => same_any B b h F k j (wr.drewN q) ((K1.out.u.below hbj).drewN q) hs
          have hsb : sameB h k j = ((z : Int) == (lab h j : Int)) := by
            rw [← Hz.out, Bool.eq_iff_iff]
            simp only [beq_iff_eq, sameB, decide_eq_true_eq, Int.toNat_natCast]
            have := lab_iff h K1.out.u.ok k j hkl hjl
            constructor
            · intro e; have := this.2 e.2.2.2.2; omega
            · intro e; exact ⟨by omega, by omega, by omega, by omega, this.1 (by omega)⟩
          rw [hsb] at hsame
          have Hsame := Lib.hid hsame
          have Hbj := Lib.hid hbj
          have hji : (j : Int) < (nE h : Int) := by omega
          clear hsame hsb hbj
          generalize lab h j = y at cj Hsame
          go_wp2_with fail
          go_quiet ((go_at_call 17; exact (Hsame.out _).mono fun e w' h => ⟨h.1, _, h.2.symm⟩))
          go_wp2_with fail
          go_roundw
          case rel => exact ⟨j + 1, by omega, by go_num, below_drawn (B := w1.heap.size) (a := w1) (b := wr) Hbj.out nq⟩
          case measure => simp [intOf]; omega
        · have Hbj := Lib.hid hbj
          clear hbj
          go_wp2_with fail
          go_roundw
          case rel => exact ⟨k + 1, by omega, by go_num, Hbj.out⟩
          case measure => simp [intOf]; omega
    · have Hbk2 := Lib.hid hbk
      clear hbk
      go_wp2_with fail
      go_ret
      exact ⟨rfl, below_chain Hb1.out Hbk2.out⟩
end Go.Proofs.Ytihoegihmgeenaa
