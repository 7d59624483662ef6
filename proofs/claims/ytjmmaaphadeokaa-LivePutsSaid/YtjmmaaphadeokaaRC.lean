/- The reference on programs. -/
import Derived.Test.YtjmmaaphadeokaaRB
namespace Go.Proofs.Ytjmmaaphadeokaa
open Go.RowKit Go.Shelf
set_option linter.unusedVariables false
set_option linter.unusedSimpArgs false
theorem hasB_snoc (l : List Int) (y x : Int) : hasB (l ++ [y]) x = (hasB l x || decide (y = x)) := by unfold hasB; simp
theorem dup_iff : ∀ (l : List Int), dupB l = true ↔ ∃ k, ∃ h : k < l.length, hasB (l.take k) l[k] = true
  | [] => by simp [dupB]
  | x :: t => by
    unfold dupB
    rw [Bool.or_eq_true, dup_iff t, hasB_mem]
    constructor
    · rintro (h | ⟨k, hk, h⟩)
      · obtain ⟨k, hk, rfl⟩ := List.mem_iff_getElem.1 h
        exact ⟨k + 1, by simpa using hk, by rw [hasB_mem]; simp⟩
      · refine ⟨k + 1, by simpa using hk, ?_⟩
        rw [hasB_mem] at h ⊢
        simp only [List.take_succ_cons, List.getElem_cons_succ, List.mem_cons]
        exact .inr h
    · rintro ⟨k, hk, h⟩
      rw [hasB_mem] at h
      match k, hk, h with
      | 0, _, h => simp at h
      | k + 1, hk, h =>
        simp only [List.take_succ_cons, List.getElem_cons_succ, List.mem_cons] at h
        rcases h with h | h
        · left; rw [← h]; exact List.getElem_mem _
        · right; exact ⟨k, by simpa using hk, by rw [hasB_mem]; exact h⟩
def NDp (l : List Int) (k : Nat) : Prop := ∀ j (h : j < l.length), j < k → hasB (l.take j) l[j] = false
theorem ndp_snoc {l : List Int} {k : Nat} (hk : k < l.length) (h : NDp l k) (e : hasB (l.take k) l[k] = false) : NDp l (k + 1) := by
  intro j hj h1
  by_cases e2 : j = k
  · subst e2; exact e
  · exact h j hj (by omega)
theorem ndp_end {l : List Int} (h : NDp l l.length) : dupB l = false := by
  cases hd : dupB l
  · rfl
  · obtain ⟨k, hk, h2⟩ := (dup_iff l).1 hd
    rw [h k hk hk] at h2; cases h2
theorem ndp_hit {l : List Int} {k : Nat} (hk : k < l.length) (e : hasB (l.take k) l[k] = true) : dupB l = true := (dup_iff l).2 ⟨k, hk, e⟩
theorem hasB_take_le {l : List Int} {x k : Nat} (hx : x ≤ k) (hk : k < l.length) (y : Int) (h : hasB (l.take x) y = true) : hasB (l.take k) y = true := by
  rw [hasB_mem] at *
  exact List.mem_of_mem_take (i := x) (by rw [List.take_take, Nat.min_eq_left hx]; exact h)
theorem hasB_take {l : List Int} {x k : Nat} (hx : x < k) (hk : k < l.length) (y : Int) (h : hasB (l.take x) y = true) : hasB (l.take k) y = true := by
  rw [hasB_mem] at *
  exact List.mem_of_mem_take (i := x) (by rw [List.take_take, Nat.min_eq_left (by omega)]; exact h)
set_option maxRecDepth 100000 in
set_option maxHeartbeats 1000000 in
theorem rchk_a (W R : Int) (p q : Option Addr) (pc qc : Nat) (ins : List I6) (out : List Int) (w : World) (hi : RI w p pc ins) (ho : RO w q qc out) (li : ins.length ≤ 1000) (lo : out.length ≤ 1000) (hb : W < 1 ∨ 64 < W) : Calls Try.prog 28 #[.agg #[.int .i64 W, .int .i64 R, .slice p ins.length pc, .slice q out.length qc]] w fun e w' => e = .returned (.int .i64 3) ∧ BK w w' := by
  have HK := Lib.hid (bk_alloc (BK.refl w) (.cells #[.int .i64 W, .int .i64 R, .slice p ins.length pc, .slice q out.length qc] 25))
  rcases hb with hb | hb
  all_goals
    go_enter Try.func28, Try.ntmps28
    go_wp2_with fail
    go_ret
    exact ⟨rfl, HK.out⟩
set_option maxRecDepth 100000 in
set_option maxHeartbeats 1000000 in
theorem rchk_b (W R : Int) (p q : Option Addr) (pc qc : Nat) (ins : List I6) (out : List Int) (w : World) (hi : RI w p pc ins) (ho : RO w q qc out) (li : ins.length ≤ 1000) (lo : out.length ≤ 1000) (w1 : 1 ≤ W) (w2 : W ≤ 64) (hb : R < 1 ∨ 8 < R) : Calls Try.prog 28 #[.agg #[.int .i64 W, .int .i64 R, .slice p ins.length pc, .slice q out.length qc]] w fun e w' => e = .returned (.int .i64 18) ∧ BK w w' := by
  have HK := Lib.hid (bk_alloc (BK.refl w) (.cells #[.int .i64 W, .int .i64 R, .slice p ins.length pc, .slice q out.length qc] 25))
  rcases hb with hb | hb
  all_goals
    go_enter Try.func28, Try.ntmps28
    go_wp2_with fail
    go_ret
    exact ⟨rfl, HK.out⟩
set_option maxRecDepth 100000 in
set_option maxHeartbeats 1000000 in
theorem rchk_c (W R : Int) (p q : Option Addr) (pc qc : Nat) (ins : List I6) (out : List Int) (w : World) (hi : RI w p pc ins) (ho : RO w q qc out) (li : ins.length ≤ 1000) (lo : out.length ≤ 1000) (w1 : 1 ≤ W) (w2 : W ≤ 64) (r1 : 1 ≤ R) (r2 : R ≤ 8) (hb : 256 < ins.length) : Calls Try.prog 28 #[.agg #[.int .i64 W, .int .i64 R, .slice p ins.length pc, .slice q out.length qc]] w fun e w' => e = .returned (.int .i64 7) ∧ BK w w' := by
  have HK := Lib.hid (bk_alloc (BK.refl w) (.cells #[.int .i64 W, .int .i64 R, .slice p ins.length pc, .slice q out.length qc] 25))
  go_enter Try.func28, Try.ntmps28
  go_wp2_with fail
  go_ret
  exact ⟨rfl, HK.out⟩
set_option maxRecDepth 100000 in
set_option maxHeartbeats 4000000 in
theorem rchk_d (W R : Int) (p q : Option Addr) (pc qc : Nat) (ins : List I6) (out : List Int) (w : World) (hi : RI w p pc ins) (ho : RO w q qc out) (li : ins.length ≤ 1000) (lo : out.length ≤ 1000) (w1 : 1 ≤ W) (w2 : W ≤ 64) (r1 : 1 ≤ R) (r2 : R ≤ 8) (hb : ins.length ≤ 256) (E : Int) (hE : E = if firstE (maskI W) R ins = 0 then outE R out else firstE (maskI W) R ins) :
    Calls Try.prog 28 #[.agg #[.int .i64 W, .int .i64 R, .slice p ins.length pc, .slice q out.length qc]] w fun e w' => e = .returned (.int .i64 E) ∧ BK w w' := by
  have b4 := b4_new w (.int .i64 W) (.int .i64 R) (.slice p ins.length pc) (.slice q out.length qc) 25
  have hk := bk_alloc (BK.refl w) (.cells #[.int .i64 W, .int .i64 R, .slice p ins.length pc, .slice q out.length qc] 25)
  have HI := Lib.hid hi
  have HO := Lib.hid ho
  have HZ := Lib.hid (show firstE (maskI W) R (ins.drop ins.length) = 0 by rw [List.drop_length]; rfl)
  have HZ2 := Lib.hid (show anyMiss R (out.drop out.length) = false by rw [List.drop_length]; rfl)
  have C49 := Lib.hid (fun (i : I6) (wa wc : World) (hb : BK wa wc) => (rin49 W R p q ins.length pc out.length qc i wc w1 w2).mono (R' := fun e w' => e = .returned (.int .i64 (insE (maskI W) R i)) ∧ BK wa w') fun e w' ⟨a, b⟩ => ⟨a, bk_tr hb b⟩)
  clear hi ho
  generalize maskI W = mk at HZ C49 hE
  have HE := Lib.hid hE
  clear hE
  go_enter Try.func28, Try.ntmps28
  go_upto_region 1 with (fail)
  generalize w.alloc (.cells #[.int .i64 W, .int .i64 R, .slice p ins.length pc, .slice q out.length qc] 25) = w0 at b4 hk ⊢
  have H4 := Lib.hid (fun wc (hb : BK w0 wc) => b4.keep hb)
  have HK := Lib.hid hk
  obtain ⟨c0, c1, c2, c3⟩ := b4
  clear hk
  go_wp2_with fail
  clear c0 c1 c2 c3
  go_loopw [3] (fun i wr => ∃ k : Nat, k ≤ ins.length ∧ i = .int .i64 k ∧ firstE mk R ins = firstE mk R (ins.drop k) ∧ BK w0 wr) (fun i _ => ins.length - (intOf i).toNat)
  case atStart => exact ⟨0, Nat.zero_le _, rfl, rfl, BK.refl _⟩
  case round =>
    obtain ⟨k, hkk, rfl, hs, hkw⟩ := hrel
    have HK0 := Lib.hid hkw
    obtain ⟨c0, c1, c2, c3⟩ := H4.out _ hkw
    by_cases hlt : k < ins.length
    · have HS := Lib.hid (hs.trans (firstE_drop mk R ins k hlt))
      obtain ⟨b, o, rfl, hc⟩ := (HI.out.keep (bk_tr HK.out hkw)).get k hlt
      clear hs hkw
      generalize ins[k] = i at hc HS
      have HC := Lib.hid (fun wc (hb : BK wr wc) => hc.keep hb)
      have R49 := Lib.hid (C49.out i wr)
      generalize insE mk R i = x at HS R49
      clear hc
      go_wp2_with fail
      clear c0 c1 c2 c3
      refine wp_region_class (C := fun w' => BK wr w') (by kernel_rfl) (by kernel_rfl) (bk_drew (BK.refl _)) ?_
      repeat (first
          | go_big_quiet_step (fail)
          | (refine wpQuiet_step (fun K hK => ?_)
             go_simp
             first
               | (refine hK _ ?_; clear hK K)
               | (refine ⟨_, fun _ _ => rfl, hK _ ?_⟩; clear hK K)
               | (apply Exists.intro; refine ⟨fun w5 hw5 => ?_, hK _ ?_⟩; (go_at_call 49; with_reducible exact R49.out _ hw5); clear hK K)
               | (apply Exists.intro; refine ⟨fun w5 hw5 => ?_, hK _ ?_⟩; (obtain ⟨q0, q1, q2, q3⟩ := H4.out _ (bk_tr HK0.out hw5); obtain ⟨d0, d1, d2, d3, d4, d5⟩ := HC.out _ hw5; go_simp; rfl); clear hK K)))
      refine wpQuiet_nil ?_
      intro w5 hw5
      have H5 := Lib.hid (bk_tr HK0.out hw5)
      clear hw5
      by_cases hx : x = 0
      · subst hx
        have H1 := Lib.hid (HS.out.trans (if_pos rfl))
        go_wp2_with fail
        go_roundw
        case rel => exact ⟨k + 1, by omega, by go_num, H1.out, H5.out⟩
        case measure => simp [intOf]; omega
      · have H1 := Lib.hid (HS.out.trans (if_neg hx))
        have hn : (x != 0) = true := by simpa using hx
        have hx' := Lib.hid hx
        clear hx
        go_wp2_with fail
        go_ret
        exact ⟨ret_int (by rw [HE.out, H1.out, if_neg hx'.out]), bk_tr HK.out H5.out⟩
    · obtain rfl : k = ins.length := by omega
      have H1 := Lib.hid (HE.out.trans (if_pos (hs.trans HZ.out)))
      clear hs hkw
      go_wp2_with fail
      clear c0 c1 c2 c3
      go_loopw [5] (fun i wr => ∃ k : Nat, k ≤ out.length ∧ i = .int .i64 k ∧ anyMiss R out = anyMiss R (out.drop k) ∧ BK w0 wr) (fun i _ => out.length - (intOf i).toNat)
      case atStart => exact ⟨0, Nat.zero_le _, rfl, rfl, HK0.out⟩
      case round =>
        obtain ⟨k, hkk, rfl, hs2, hkw2⟩ := hrel
        have HK2 := Lib.hid hkw2
        obtain ⟨c0, c1, c2, c3⟩ := H4.out _ hkw2
        by_cases hlt2 : k < out.length
        · have HS2 := Lib.hid (hs2.trans (anyMiss_drop R out k hlt2))
          obtain ⟨b, o, rfl, hc⟩ := (HO.out.keep (bk_tr HK.out hkw2)).get k hlt2
          clear hs2 hkw2
          generalize out[k] = y at hc HS2
          have I50 := Lib.hid (in50' y R)
          cases hz : inB R y
          · have H2 := Lib.hid (H1.out.trans (outE_miss (show anyMiss R out = true from by rw [HS2.out]; unfold missB; rw [hz]; rfl)))
            rw [hz] at I50
            clear hz HS2
            go_wp2_with fail
            go_quiet ((go_at_call 50; exact Calls.quiet_of_same (I50.out _)))
            go_wp2_with fail
            go_ret
            exact ⟨ret_int H2.out.symm, bk_tr HK.out (bk_drewN HK2.out _)⟩
          · have H2 := Lib.hid (show anyMiss R out = anyMiss R (out.drop (k + 1)) from by rw [HS2.out]; unfold missB; rw [hz]; rfl)
            rw [hz] at I50
            clear hz HS2
            go_wp2_with fail
            go_quiet ((go_at_call 50; exact Calls.quiet_of_same (I50.out _)))
            go_wp2_with fail
            go_roundw
            case rel => exact ⟨k + 1, by omega, by go_num, H2.out, bk_drewN HK2.out _⟩
            case measure => simp [intOf]; omega
        · obtain rfl : k = out.length := by omega
          have hnm := hs2.trans HZ2.out
          have H2 := Lib.hid (H1.out.trans (outE_dup hnm))
          clear hs2 hkw2 hnm
          go_wp2_with fail
          clear c0 c1 c2 c3
          go_loopw [6] (fun i wr => ∃ k : Nat, k ≤ out.length ∧ i = .int .i64 k ∧ NDp out k ∧ BK w0 wr) (fun i _ => out.length - (intOf i).toNat)
          case atStart => exact ⟨0, Nat.zero_le _, rfl, fun j h1 h2 => by omega, HK2.out⟩
          case round =>
            obtain ⟨k, hkk, rfl, hnd, hkw3⟩ := hrel
            have HK3 := Lib.hid hkw3
            have HND := Lib.hid hnd
            obtain ⟨c0, c1, c2, c3⟩ := H4.out _ hkw3
            by_cases hlt3 : k < out.length
            · obtain ⟨b, o, rfl, hc⟩ := (HO.out.keep (bk_tr HK.out hkw3)).get k hlt3
              have HRO := Lib.hid (HO.out.keep (bk_tr HK.out hkw3))
              have HC := Lib.hid (fun wc (hb : BK _ wc) => (hb.bl.cell (p := ⟨b, o + k, none⟩) (World.block_lt_of_cell? _ _ hc)).trans hc)
              clear hnd hkw3 hc
              go_wp2_with fail
              clear c0 c1 c2 c3
              obtain ⟨wa, hwa⟩ : ∃ x, x = wr := ⟨_, rfl⟩
              subst hwa
              go_loopw [7] (fun i wq => ∃ x : Nat, x ≤ k ∧ i = .int .i64 x ∧ hasB (out.take x) (out[k]) = false ∧ BK wa wq) (fun i _ => k - (intOf i).toNat)
              case atStart => exact ⟨0, Nat.zero_le _, rfl, rfl, BK.refl _⟩
              case round =>
                obtain ⟨x, hx1, rfl, hnh, hkq⟩ := hrel
                have HQ := Lib.hid hkq
                have HNH := Lib.hid hnh
                have ck := HC.out _ hkq
                obtain ⟨c0, c1, c2, c3⟩ := H4.out _ (bk_tr HK3.out hkq)
                by_cases hlt4 : x < k
                · have hx2 : x < out.length := by omega
                  obtain ⟨b', o', he, cx⟩ := (HRO.out.keep hkq).get x hx2
                  simp only [Option.some.injEq, Addr.mk.injEq, and_true] at he
                  obtain ⟨rfl, rfl⟩ := he
                  have hst : hasB (out.take (x + 1)) out[k] = (hasB (out.take x) out[k] || decide (out[x] = out[k])) := by
                    rw [List.take_succ_eq_append_getElem hx2, hasB_snoc]
                  rw [hnh, Bool.false_or] at hst
                  have HT := Lib.hid (fun (e : hasB (out.take (x + 1)) out[k] = true) => ndp_hit hlt3 (hasB_take_le (by omega) hlt3 _ e))
                  have HST := Lib.hid hst
                  have HCL := Lib.hid (fun (e : out[x] = out[k]) => HT.out (by rw [hst]; simpa using e))
                  have HCN := Lib.hid (fun (e : ¬ out[x] = out[k]) => show hasB (out.take (x + 1)) out[k] = false from by rw [hst]; simpa using e)
                  clear hst hnh hkq
                  by_cases hyz : out[x] = out[k]
                  · have H5 := Lib.hid (H2.out.trans (if_pos (HCL.out hyz)))
                    clear HCL HCN HT HST
                    rw [hyz] at cx
                    generalize out[k] = z at ck cx
                    clear hyz
                    go_wp2_with fail
                    go_quiet (fail)
                    go_wp2_with fail
                    go_ret
                    exact ⟨ret_int H5.out.symm, bk_tr HK.out (bk_tr HK3.out (bk_drewN HQ.out _))⟩
                  · have H5 := Lib.hid (HCN.out hyz)
                    have hd : (out[x] == out[k]) = false := by simpa using hyz
                    clear HCL HCN HT HST hyz
                    generalize out[x] = y at cx hd
                    generalize hz : out[k] = z at ck hd
                    have HZK := Lib.hid hz
                    clear hz
                    go_wp2_with fail
                    go_quiet (fail)
                    go_wp2_with fail
                    go_roundw
                    case rel => exact ⟨x + 1, by omega, by go_num, by first | exact H5.out | (rw [← HZK.out]; exact H5.out), bk_drewN HQ.out _⟩
                    case measure => simp [intOf]; omega
                · obtain rfl : x = k := by omega
                  have H5 := Lib.hid (ndp_snoc hlt3 HND.out HNH.out)
                  clear hnh hkq ck
                  go_wp2_with fail
                  go_roundw
                  case rel => exact ⟨x + 1, by omega, by go_num, H5.out, bk_tr HK3.out HQ.out⟩
                  case measure => simp [intOf]; omega
            · obtain rfl : k = out.length := by omega
              have H3 := Lib.hid (H2.out.trans (if_neg (by rw [ndp_end HND.out]; simp)))
              clear hnd hkw3
              go_wp2_with fail
              go_ret
              exact ⟨ret_int H3.out.symm, bk_tr HK.out HK3.out⟩
theorem rchk28 (W R : Int) (p q : Option Addr) (pc qc : Nat) (ins : List I6) (out : List Int) (w : World) (hi : RI w p pc ins) (ho : RO w q qc out) (li : ins.length ≤ 1000) (lo : out.length ≤ 1000) : Calls Try.prog 28 #[.agg #[.int .i64 W, .int .i64 R, .slice p ins.length pc, .slice q out.length qc]] w fun e w' => e = .returned (.int .i64 (chkE W R ins out)) ∧ BK w w' := by
  unfold chkE
  split
  · exact rchk_a W R p q pc qc ins out w hi ho li lo ‹_›
  · split
    · exact rchk_b W R p q pc qc ins out w hi ho li lo (by omega) (by omega) ‹_›
    · split
      · exact rchk_c W R p q pc qc ins out w hi ho li lo (by omega) (by omega) (by omega) (by omega) ‹_›
      · exact rchk_d W R p q pc qc ins out w hi ho li lo (by omega) (by omega) (by omega) (by omega) (by omega) _ rfl
end Go.Proofs.Ytjmmaaphadeokaa
