/- The reference's Same and SameAll of terms. -/
import Derived.Test.YtnlpiaejfmdckaaDoorSC
namespace Go.Proofs.YtnlpiaejfmdckaaDoor
open Go.RowKit
set_option linter.unusedVariables false
set_option linter.unusedSimpArgs false
mutual
def sameT : T → T → Bool
  | .mk op wd vl nm ts, .mk op' wd' vl' nm' us => if op = op' then if wd = wd' then if vl = vl' then if nm = nm' then sameL ts us else false else false else false else false
def sameL : List T → List T → Bool
  | [], [] => true
  | [], _ :: _ => false
  | _ :: _, [] => false
  | t :: ts, u :: us => if sameT t u = true then sameL ts us else false
end
theorem sameT_mk (op wd : Int) (vl : Nat) (nm : ByteArray) (ts : List T) (op' wd' : Int) (vl' : Nat) (nm' : ByteArray) (us : List T) : sameT (.mk op wd vl nm ts) (.mk op' wd' vl' nm' us) = if op = op' then if wd = wd' then if vl = vl' then if nm = nm' then sameL ts us else false else false else false else false := by rw [sameT]
theorem sameL_nil : sameL [] [] = true := by rw [sameL]
theorem sameL_cons (t u : T) (ts us : List T) : sameL (t :: ts) (u :: us) = if sameT t u = true then sameL ts us else false := by rw [sameL]
theorem sameL_ne : ∀ {ts us : List T}, ts.length ≠ us.length → sameL ts us = false
  | [], [], h => absurd rfl h
  | [], _ :: _, _ => by rw [sameL]
  | _ :: _, [], _ => by rw [sameL]
  | t :: ts, u :: us, h => by
    rw [sameL_cons, sameL_ne (fun e => h (by simp [e]))]
    split <;> rfl
theorem sameL_refl : ∀ (ts : List T), (∀ t ∈ ts, sameT t t = true) → sameL ts ts = true
  | [], _ => sameL_nil
  | t :: ts, h => by rw [sameL_cons, if_pos (h t (by simp))]; exact sameL_refl ts fun u hu => h u (by simp [hu])
theorem sameT_refl (t : T) : sameT t t = true := by
  induction t using T.ind with
  | h op wd vl nm ts ih => rw [sameT_mk, if_pos rfl, if_pos rfl, if_pos rfl, if_pos rfl]; exact sameL_refl ts ih
def SMC (t : T) : Prop := ∀ (u : T) (w : World) (p q : Option Addr) (c d : Nat), RowD (mem 0 w) w p c t.ts → RowD (mem 0 w) w q d u.ts → Calls Tryd.prog 43 #[.agg #[.int .i64 t.op, .int .i64 t.wd, .int .u64 t.vl, .string t.nm, .slice p t.ts.length c], .agg #[.int .i64 u.op, .int .i64 u.wd, .int .u64 u.vl, .string u.nm, .slice q u.ts.length d]] w fun e w' => e = .returned (.bool (sameT t u)) ∧ BK w w'
set_option maxRecDepth 100000 in
set_option maxHeartbeats 4000000 in
theorem all61 (ts us : List T) (hl : ts.length ≤ 100000) (ih : ∀ t ∈ ts, SMC t) (w : World) (p q : Option Addr) (c d : Nat) (hp : RowD (mem 0 w) w p c ts) (hq : RowD (mem 0 w) w q d us) : Calls Tryd.prog 61 #[.slice p ts.length c, .slice q us.length d] w fun e w' => e = .returned (.bool (sameL ts us)) ∧ BK w w' := by
  by_cases hn : ts.length = us.length
  · have HN := Lib.hid hn
    rw [← hn]
    have HP := Lib.hid hp
    have HQ := Lib.hid hq
    have IH := Lib.hid ih
    have HL := Lib.hid hl
    clear hp hq ih hl hn
    generalize hr : sameL ts us = r
    have HR := Lib.hid hr
    clear hr
    go_enter Tryd.func61, Tryd.ntmps61
    go_wp2_with fail
    go_loopw [5] (fun iv wr => ∃ k : Nat, k ≤ ts.length ∧ iv = .int .i64 (k : Int) ∧ sameL (ts.drop k) (us.drop k) = r ∧ BK w wr) (fun iv _ => ts.length - (intOf iv).toNat)
    case atStart => exact ⟨0, Nat.zero_le _, rfl, HR.out, BK.refl _⟩
    case round =>
      obtain ⟨k, hk, rfl, heq, hb⟩ := hrel
      have KB := Lib.hid hb
      have EQ := Lib.hid heq
      clear hb heq
      by_cases e : k = ts.length
      · have hd : decide (k < ts.length) = false := by simp [e]
        have EQ2 := EQ.out
        rw [List.drop_of_length_le (by omega), List.drop_of_length_le (by rw [← HN.out]; omega), sameL_nil] at EQ2
        subst EQ2
        subst e
        go_wp2_with fail
        go_ret
        exact ⟨rfl, KB.out⟩
      · have hlt : k < ts.length := by omega
        have hlu : k < us.length := by rw [← HN.out]; exact hlt
        have hd : decide (k < ts.length) = true := by simpa using hlt
        obtain ⟨b3, o3, op3, wd3, vl3, nm3, us3, q3, d3, rfl, -, he3, ⟨y0, y1, y2, y3, y4⟩, hr3⟩ := (HP.out.bk KB.out (Nat.le_refl _)).get hlt
        obtain ⟨b4, o4, op4, wd4, vl4, nm4, us4, q4, d4, rfl, -, he4, ⟨z0, z1, z2, z3, z4⟩, hr4⟩ := (HQ.out.bk KB.out (Nat.le_refl _)).get hlu
        have KD := Lib.hid (fun wc (hb : BK wr wc) => And.intro (C5.bk ⟨y0, y1, y2, y3, y4⟩ hb) (C5.bk ⟨z0, z1, z2, z3, z4⟩ hb))
        have EQ2 := EQ.out
        rw [List.drop_eq_getElem_cons hlt, List.drop_eq_getElem_cons hlu, sameL_cons, he3, he4] at EQ2
        generalize hbb : sameT (T.mk op3 wd3 vl3 nm3 us3) (T.mk op4 wd4 vl4 nm4 us4) = bb at EQ2
        have CC := Lib.hid (fun wc (hb : BK wr wc) => show Calls Tryd.prog 43 #[.agg #[.int .i64 op3, .int .i64 wd3, .int .u64 vl3, .string nm3, .slice q3 us3.length d3], .agg #[.int .i64 op4, .int .i64 wd4, .int .u64 vl4, .string nm4, .slice q4 us4.length d4]] wc (fun e w' => e = .returned (.bool bb) ∧ BK wr w') from by
          have := IH.out ts[k] (List.getElem_mem hlt) (.mk op4 wd4 vl4 nm4 us4) wc q3 q4 d3 d4 (by rw [he3]; exact hr3.bk hb (Nat.le_refl _)) (hr4.bk hb (Nat.le_refl _))
          rw [he3, hbb] at this
          exact this.mono fun e w' ⟨h1, h2⟩ => ⟨h1, bk_tr hb h2⟩)
        have EQ3 := Lib.hid EQ2
        have ei : IntKind.i64.wrap ((k : Int) + 1) = (k : Int) + 1 := by have := HL.out; exact IntWalk.i64_in _ (by omega)
        have hki : (k : Int) < (ts.length : Int) := by omega
        have HLT := Lib.hid hlt
        clear y0 y1 y2 y3 y4 z0 z1 z2 z3 z4 hr3 hr4 he3 he4 e EQ2 hbb
        go_wp2_with fail
        refine wp_region_class (C := fun w' => BK wr w') (by kernel_rfl) (by kernel_rfl) (bk_drew (BK.refl _)) ?_
        repeat (first
          | go_big_quiet_step (fail)
          | (refine wpQuiet_step (fun K hK => ?_)
             go_simp
             first
               | (refine hK _ ?_; clear hK K)
               | (refine ⟨_, fun _ _ => rfl, hK _ ?_⟩; clear hK K)
               | (apply Exists.intro; refine ⟨fun w5 hw5 => ?_, hK _ ?_⟩; (go_at_call 43; with_reducible exact CC.out _ hw5); clear hK K)
               | (apply Exists.intro; refine ⟨fun w5 hw5 => ?_, hK _ ?_⟩; (obtain ⟨⟨q0, q1, q2, q3, q4⟩, ⟨p0, p1, p2, p3, p4⟩⟩ := KD.out _ hw5; go_simp; rfl); clear hK K)))
        refine wpQuiet_nil ?_
        intro wn hwn
        have KN := Lib.hid (bk_tr KB.out hwn)
        clear hwn
        cases bb with
        | false =>
          have EQ4 := EQ3.out
          rw [if_neg (by decide)] at EQ4
          subst EQ4
          go_wp2_with fail
          go_ret
          exact ⟨rfl, KN.out⟩
        | true =>
          have EQ4 := Lib.hid (show sameL (ts.drop (k + 1)) (us.drop (k + 1)) = r from by have := EQ3.out; rwa [if_pos rfl] at this)
          go_wp2_with fail
          go_roundw
          case rel => exact ⟨k + 1, by have := HLT.out; omega, by go_num, EQ4.out, KN.out⟩
          case measure => have := HLT.out; simp [intOf]; omega
  · rw [sameL_ne hn]
    have hne : ((ts.length : Int) != (us.length : Int)) = true := nn_cast hn
    clear hp hq ih hl
    generalize ts.length = n at *
    generalize us.length = m at *
    go_enter Tryd.func61, Tryd.ntmps61
    go_wp2_with fail
    go_ret
    exact ⟨rfl, BK.refl _⟩
theorem str_inj {a b : ByteArray} (h : a.toList = b.toList) : a = b := by
  rw [ByteArray.toList_eq, ByteArray.toList_eq] at h
  exact ByteArray.ext (Array.toList_inj.1 h)
set_option maxRecDepth 100000 in
set_option maxHeartbeats 4000000 in
theorem same43 (t : T) (hok : smT t) : SMC t := by
  induction t using T.ind with
  | h op wd vl nm ts ih =>
    intro u w p q c d hp0 hq0
    cases u with
    | mk op' wd' vl' nm' us =>
    rw [smT_mk] at hok
    have hp : RowD (mem 0 w) w p c ts := hp0
    have hq : RowD (mem 0 w) w q d us := hq0
    show Calls Tryd.prog 43 #[.agg #[.int .i64 op, .int .i64 wd, .int .u64 vl, .string nm, .slice p ts.length c], .agg #[.int .i64 op', .int .i64 wd', .int .u64 vl', .string nm', .slice q us.length d]] w _
    obtain ⟨h1, h2', h3'⟩ := two_boxes w #[.int .i64 op, .int .i64 wd, .int .u64 vl, .string nm, .slice p ts.length c] #[.int .i64 op', .int .i64 wd', .int .u64 vl', .string nm', .slice q us.length d] 42 42
    have h2 := cs_of_row h2'
    have h3 := cs_of_row h3'
    have KK := Lib.hid h1
    have C61 := Lib.hid (all61 ts us hok.1 (fun t ht => ih t ht (smL_iff.1 hok.2 t ht)) _ p q c d (hp.bk h1 (Nat.le_refl _)) (hq.bk h1 (Nat.le_refl _)))
    have x0 := h2 0 _ rfl
    have x1 := h2 1 _ rfl
    have x2 := h2 2 _ rfl
    have x3 := h2 3 _ rfl
    have x4 := h2 4 _ rfl
    have y0 := h3 0 _ rfl
    have y1 := h3 1 _ rfl
    have y2 := h3 2 _ rfl
    have y3 := h3 3 _ rfl
    have y4 := h3 4 _ rfl
    clear hp hq ih hp0 hq0 hok h1 h2 h3 h2' h3'
    rw [sameT_mk]
    by_cases e0 : op = op'
    · subst e0
      rw [if_pos rfl]
      by_cases e1 : wd = wd'
      · subst e1
        rw [if_pos rfl]
        by_cases e2 : vl = vl'
        · subst e2
          rw [if_pos rfl]
          by_cases e3 : nm = nm'
          · subst e3
            rw [if_pos rfl]
            generalize sameL ts us = r at *
            go_enter Tryd.func43, Tryd.ntmps43
            go_wp2_with fail
            refine C61.out.mono ?_
            rintro e w3 ⟨rfl, hb3⟩
            have K3 := Lib.hid hb3
            clear hb3
            go_wp2_with fail
            go_ret
            exact ⟨rfl, bk_tr KK.out K3.out⟩
          · rw [if_neg e3]
            have hne : ¬ nm.toList = nm'.toList := fun e => e3 (str_inj e)
            clear e3
            go_enter Tryd.func43, Tryd.ntmps43
            go_wp2_with fail
            go_ret
            exact ⟨rfl, KK.out⟩
        · rw [if_neg e2]
          have hne : ((vl : Int) == (vl' : Int)) = false := ne_cast e2
          have hne2 : ¬ (vl : Int) = (vl' : Int) := by omega
          clear e2
          go_enter Tryd.func43, Tryd.ntmps43
          go_wp2_with fail
          go_ret
          exact ⟨rfl, KK.out⟩
      · rw [if_neg e1]
        have hne : (wd == wd') = false := by simp [e1]
        go_enter Tryd.func43, Tryd.ntmps43
        go_wp2_with fail
        go_ret
        exact ⟨rfl, KK.out⟩
    · rw [if_neg e0]
      have hne : (op == op') = false := by simp [e0]
      go_enter Tryd.func43, Tryd.ntmps43
      go_wp2_with fail
      go_ret
      exact ⟨rfl, KK.out⟩
end Go.Proofs.YtnlpiaejfmdckaaDoor
