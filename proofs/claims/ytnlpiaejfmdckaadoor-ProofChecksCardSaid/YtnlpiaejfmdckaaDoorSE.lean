/- The reference's subs: two lists of substitutions. -/
import Derived.Test.YtnlpiaejfmdckaaDoorSD
namespace Go.Proofs.YtnlpiaejfmdckaaDoor
open Go.RowKit
set_option linter.unusedVariables false
set_option linter.unusedSimpArgs false
def subB : List U → List U → Bool
  | [], [] => true
  | [], _ :: _ => false
  | _ :: _, [] => false
  | u :: us, v :: vs => if u.nm = v.nm then if sameT u.t v.t = true then subB us vs else false else false
theorem subB_nil : subB [] [] = true := by rw [subB]
theorem subB_cons (u v : U) (us vs : List U) : subB (u :: us) (v :: vs) = if u.nm = v.nm then if sameT u.t v.t = true then subB us vs else false else false := by rw [subB]
theorem subB_ne : ∀ {us vs : List U}, us.length ≠ vs.length → subB us vs = false
  | [], [], h => absurd rfl h
  | [], _ :: _, _ => by rw [subB]
  | _ :: _, [], _ => by rw [subB]
  | u :: us, v :: vs, h => by
    rw [subB_cons, subB_ne (fun e => h (by simp [e]))]
    split
    · split <;> rfl
    · rfl
theorem subB_refl : ∀ (us : List U), subB us us = true
  | [] => subB_nil
  | u :: us => by rw [subB_cons, if_pos rfl, if_pos (sameT_refl u.t)]; exact subB_refl us
theorem RowU.get6 {D : Nat → Prop} {w : World} {p : Option Addr} {c : Nat} {us : List U} (h : RowU D w p c us) {k : Nat} (hk : k < us.length) : ∃ b o q d, p = some ⟨b, o, none⟩ ∧ D b ∧ C6 w b (o + k * 6) (.string us[k].nm) (.int .i64 us[k].t.op) (.int .i64 us[k].t.wd) (.int .u64 us[k].t.vl) (.string us[k].t.nm) (.slice q us[k].t.ts.length d) ∧ RowD D w q d us[k].t.ts := by
  rcases h with h | ⟨b, o, h1, h2, h3, h4⟩
  · omega
  · obtain ⟨q, d, h5, h6⟩ := h3 k hk
    exact ⟨b, o, q, d, h1, h2, h5, h6⟩
theorem C6.bk {w w' : World} {b o : Nat} {x0 x1 x2 x3 x4 x5 : Value} (h : C6 w b o x0 x1 x2 x3 x4 x5) (hb : BK w w') : C6 w' b o x0 x1 x2 x3 x4 x5 := h.at (bk_block hb (World.block_lt_of_cell? w _ h.1))
set_option maxRecDepth 100000 in
set_option maxHeartbeats 4000000 in
theorem subs42 (us vs : List U) (hl : us.length ≤ 100000) (hok : ∀ u ∈ us, smT u.t) (w : World) (p q : Option Addr) (c d : Nat) (hp : RowU (mem 0 w) w p c us) (hq : RowU (mem 0 w) w q d vs) : Calls Tryd.prog 42 #[.slice p us.length c, .slice q vs.length d] w fun e w' => e = .returned (.bool (subB us vs)) ∧ BK w w' := by
  by_cases hn : us.length = vs.length
  · have HN := Lib.hid hn
    rw [← hn]
    have HP := Lib.hid hp
    have HQ := Lib.hid hq
    have OK := Lib.hid hok
    have HL := Lib.hid hl
    clear hp hq hok hl hn
    generalize hr : subB us vs = r
    have HR := Lib.hid hr
    clear hr
    go_enter Tryd.func42, Tryd.ntmps42
    go_wp2_with fail
    go_loopw [5] (fun iv wr => ∃ k : Nat, k ≤ us.length ∧ iv = .int .i64 (k : Int) ∧ subB (us.drop k) (vs.drop k) = r ∧ BK w wr) (fun iv _ => us.length - (intOf iv).toNat)
    case atStart => exact ⟨0, Nat.zero_le _, rfl, HR.out, BK.refl _⟩
    case round =>
      obtain ⟨k, hk, rfl, heq, hb⟩ := hrel
      have KB := Lib.hid hb
      have EQ := Lib.hid heq
      clear hb heq
      by_cases e : k = us.length
      · have hd : decide (k < us.length) = false := by simp [e]
        have EQ2 := EQ.out
        rw [List.drop_of_length_le (by omega), List.drop_of_length_le (by rw [← HN.out]; omega), subB_nil] at EQ2
        subst EQ2
        subst e
        go_wp2_with fail
        go_ret
        exact ⟨rfl, KB.out⟩
      · have hlt : k < us.length := by omega
        have hlu : k < vs.length := by rw [← HN.out]; exact hlt
        have hd : decide (k < us.length) = true := by simpa using hlt
        obtain ⟨b3, o3, q3, d3, rfl, -, hc3, hr3⟩ := (HP.out.bk KB.out (Nat.le_refl _)).get6 hlt
        obtain ⟨b4, o4, q4, d4, rfl, -, hc4, hr4⟩ := (HQ.out.bk KB.out (Nat.le_refl _)).get6 hlu
        have EQ2 := EQ.out
        rw [List.drop_eq_getElem_cons hlt, List.drop_eq_getElem_cons hlu, subB_cons] at EQ2
        have OKU := OK.out _ (List.getElem_mem hlt)
        generalize us[k] = u at *
        generalize vs[k] = v at *
        obtain ⟨un, ⟨op3, wd3, vl3, nm3, us3⟩⟩ := u
        obtain ⟨vn, ⟨op4, wd4, vl4, nm4, us4⟩⟩ := v
        have KD := Lib.hid (fun wc (hb : BK wr wc) => And.intro (show C6 wc b3 (o3 + k * 6) (.string un) (.int .i64 op3) (.int .i64 wd3) (.int .u64 vl3) (.string nm3) (.slice q3 us3.length d3) from hc3.bk hb) (show C6 wc b4 (o4 + k * 6) (.string vn) (.int .i64 op4) (.int .i64 wd4) (.int .u64 vl4) (.string nm4) (.slice q4 us4.length d4) from hc4.bk hb))
        simp only [] at EQ2
        generalize hbb : sameT (T.mk op3 wd3 vl3 nm3 us3) (T.mk op4 wd4 vl4 nm4 us4) = bb at EQ2
        have CC := Lib.hid (fun wc (hb : BK wr wc) => show Calls Tryd.prog 43 #[.agg #[.int .i64 op3, .int .i64 wd3, .int .u64 vl3, .string nm3, .slice q3 us3.length d3], .agg #[.int .i64 op4, .int .i64 wd4, .int .u64 vl4, .string nm4, .slice q4 us4.length d4]] wc (fun e w' => e = .returned (.bool bb) ∧ BK wr w') from by
          have := same43 _ OKU (.mk op4 wd4 vl4 nm4 us4) wc q3 q4 d3 d4 (hr3.bk hb (Nat.le_refl _)) (hr4.bk hb (Nat.le_refl _))
          rw [hbb] at this
          exact this.mono fun e w' ⟨h1, h2⟩ => ⟨h1, bk_tr hb h2⟩)
        have EQ3 := Lib.hid EQ2
        have ei : IntKind.i64.wrap ((k : Int) + 1) = (k : Int) + 1 := by have := HL.out; exact IntWalk.i64_in _ (by omega)
        have hki : (k : Int) < (us.length : Int) := by omega
        have HLT := Lib.hid hlt
        clear hc3 hc4 hr3 hr4 e EQ2 hbb OKU
        by_cases hnn : un = vn
        · subst hnn
          have EQ5 := Lib.hid (show (if bb = true then subB (us.drop (k + 1)) (vs.drop (k + 1)) else false) = r from by have := EQ3.out; rwa [if_pos rfl] at this)
          go_wp2_with fail
          refine wp_region_class (C := fun w' => BK wr w') (by kernel_rfl) (by kernel_rfl) (bk_drew (BK.refl _)) ?_
          repeat (first
            | go_big_quiet_step (fail)
            | (refine wpQuiet_step (fun K hK => ?_)
               go_simp
               first
                 | (refine hK _ ?_; clear hK K)
                 | (refine ⟨_, fun _ _ => rfl, hK _ ?_⟩; clear hK K)
                 | (apply Exists.intro; refine ⟨fun w5 hw5 => ?_, hK _ ?_⟩; (go_at_call 43; with_reducible exact CC.out _ hw5); clear hK K)
                 | (apply Exists.intro; refine ⟨fun w5 hw5 => ?_, hK _ ?_⟩; (obtain ⟨⟨q0, q1, q2, q3, q4, q5⟩, ⟨p0, p1, p2, p3, p4, p5⟩⟩ := KD.out _ hw5; go_simp; rfl); clear hK K)))
          trace_state
          refine wpQuiet_nil ?_
          intro wn hwn
          have KN := Lib.hid (bk_tr KB.out hwn)
          clear hwn
          cases bb with
          | false =>
            have EQ4 := EQ5.out
            rw [if_neg (by decide)] at EQ4
            subst EQ4
            go_wp2_with fail
            go_ret
            exact ⟨rfl, KN.out⟩
          | true =>
            have EQ4 := Lib.hid (show subB (us.drop (k + 1)) (vs.drop (k + 1)) = r from by have := EQ5.out; rwa [if_pos rfl] at this)
            go_wp2_with fail
            go_roundw
            case rel => exact ⟨k + 1, by have := HLT.out; omega, by go_num, EQ4.out, KN.out⟩
            case measure => have := HLT.out; simp [intOf]; omega
        · have hne : ¬ un.toList = vn.toList := fun e => hnn (str_inj e)
          have EQ4 := EQ3.out
          rw [if_neg hnn] at EQ4
          subst EQ4
          clear hnn
          go_wp2_with fail
          refine wp_region_class (C := fun w' => BK wr w') (by kernel_rfl) (by kernel_rfl) (bk_drew (BK.refl _)) ?_
          repeat (first
            | go_big_quiet_step (fail)
            | (refine wpQuiet_step (fun K hK => ?_)
               go_simp
               first
                 | (refine hK _ ?_; clear hK K)
                 | (refine ⟨_, fun _ _ => rfl, hK _ ?_⟩; clear hK K)
                 | (apply Exists.intro; refine ⟨fun w5 hw5 => ?_, hK _ ?_⟩; (go_at_call 43; with_reducible exact CC.out _ hw5); clear hK K)
                 | (apply Exists.intro; refine ⟨fun w5 hw5 => ?_, hK _ ?_⟩; (obtain ⟨⟨q0, q1, q2, q3, q4, q5⟩, ⟨p0, p1, p2, p3, p4, p5⟩⟩ := KD.out _ hw5; go_simp; rfl); clear hK K)))
          refine wpQuiet_nil ?_
          intro wn hwn
          have KN := Lib.hid (bk_tr KB.out hwn)
          clear hwn
          go_wp2_with fail
          go_ret
          exact ⟨rfl, KN.out⟩
  · rw [subB_ne hn]
    have hne : ((us.length : Int) != (vs.length : Int)) = true := nn_cast hn
    clear hp hq hok hl
    generalize us.length = n at *
    generalize vs.length = m at *
    go_enter Tryd.func42, Tryd.ntmps42
    go_wp2_with fail
    go_ret
    exact ⟨rfl, BK.refl _⟩
end Go.Proofs.YtnlpiaejfmdckaaDoor
