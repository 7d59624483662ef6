/- The program's Same. -/
import Derived.Test.YtgiheheakgigkaaAO
namespace Go.Proofs.Ytgiheheakgigkaa
open Go.RowKit
set_option linter.unusedVariables false
set_option linter.unusedSimpArgs false
set_option maxRecDepth 100000 in
set_option maxHeartbeats 4000000 in
theorem equal44 (ts us : List T) (hl : ts.length ≤ maxLen) (ih : ∀ t ∈ ts, SC 28 t) (w : World) (p q : Option Addr) (c d : Nat) (hp : RowD (mem 0 w) w p c ts) (hq : RowD (mem 0 w) w q d us) : Calls Try.prog 44 #[.slice p ts.length c, .slice q us.length d, .func (.func 28) #[] #[]] w fun e w' => e = .returned (.bool (sameL ts us)) ∧ BK w w' := by
  by_cases hn : ts.length = us.length
  · have HN := Lib.hid hn
    rw [← hn]
    have HP := Lib.hid hp
    have HQ := Lib.hid hq
    have IH := Lib.hid ih
    have HL := Lib.hid (show ts.length ≤ 9223372036854775807 from by unfold maxLen at hl; omega)
    clear hp hq ih hl hn
    generalize hr : sameL ts us = r
    have HR := Lib.hid hr
    clear hr
    go_enter Try.func44, Try.ntmps44
    go_wp2_with fail
    go_loopw [17] (fun iv wr => ∃ k : Nat, k ≤ ts.length ∧ iv = .int .i64 (k : Int) ∧ sameL (ts.drop k) (us.drop k) = r ∧ BK w wr) (fun iv _ => ts.length - (intOf iv).toNat)
    case atStart => exact ⟨0, Nat.zero_le _, rfl, HR.out, BK.refl _⟩
    case round =>
      obtain ⟨k, hk, rfl, heq, hb⟩ := hrel
      have KB := Lib.hid hb
      have EQ := Lib.hid heq
      clear hb heq
      by_cases e : k = ts.length
      · have hd : decide (k < ts.length) = false := by simp [e]
        have EQ2 := EQ.out
        rw [List.drop_of_length_le (by omega), List.drop_of_length_le (by rw [← HN.out]; omega), sameL_nil] at EQ2
        subst EQ2
        subst e
        go_wp2_with fail
        go_ret
        exact ⟨rfl, KB.out⟩
      · have hlt : k < ts.length := by omega
        have hlu : k < us.length := by rw [← HN.out]; exact hlt
        have hd : decide (k < ts.length) = true := by simpa using hlt
        obtain ⟨b3, o3, a3, us3, q3, d3, rfl, -, he3, y0, y1, hr3⟩ := (HP.out.bk KB.out (Nat.le_refl _)).get hlt
        obtain ⟨b4, o4, a4, us4, q4, d4, rfl, -, he4, z0, z1, hr4⟩ := (HQ.out.bk KB.out (Nat.le_refl _)).get hlu
        have KX := bk_alloc (BK.refl wr) (.cells #[.string a3, .slice q3 us3.length d3] 25)
        have Z0 := cellBk z0 KX
        have Z1 := cellBk z1 KX
        have KY := bk_alloc (BK.refl (wr.alloc (.cells #[.string a3, .slice q3 us3.length d3] 25))) (.cells #[.string a4, .slice q4 us4.length d4] 25)
        have N1 := (bk_block KY (by rw [sz1]; omega)).trans (heap_alloc_new wr (.cells #[.string a3, .slice q3 us3.length d3] 25))
        have x0 := cell_of_row _ wr.heap.size 0 _ 25 (0, 0) N1
        have x1 := cell_of_row _ wr.heap.size 1 _ 25 (0, 0) N1
        have KXY := Lib.hid (bk_tr KX KY)
        have EQ2 := EQ.out
        rw [List.drop_eq_getElem_cons hlt, List.drop_eq_getElem_cons hlu, sameL_cons, he3, he4] at EQ2
        generalize hbb : sameT (T.mk a3 us3) (T.mk a4 us4) = bb at EQ2
        have CC := Lib.hid (show Calls Try.prog 28 #[.agg #[.string a3, .slice q3 us3.length d3], .agg #[.string a4, .slice q4 us4.length d4]] ((wr.alloc (.cells #[.string a3, .slice q3 us3.length d3] 25)).alloc (.cells #[.string a4, .slice q4 us4.length d4] 25)) (fun e w' => e = .returned (.bool bb) ∧ BK wr w') from by
          have := IH.out ts[k] (List.getElem_mem hlt) (.mk a4 us4) _ q3 q4 d3 d4 (by rw [he3]; exact hr3.bk KXY.out (Nat.le_refl _)) (hr4.bk KXY.out (Nat.le_refl _))
          rw [he3, hbb] at this
          exact this.mono fun e w' ⟨h1, h2⟩ => ⟨h1, bk_tr KXY.out h2⟩)
        have EQ3 := Lib.hid EQ2
        have ei : IntKind.i64.wrap ((k : Int) + 1) = (k : Int) + 1 := by have := HL.out; exact IntWalk.i64_in _ (by omega)
        have hki : (k : Int) < (ts.length : Int) := by omega
        have HLT := Lib.hid hlt
        clear hr3 hr4 he3 he4 e EQ2 hbb KX KY N1 z0 z1
        go_wp2_with fail
        refine CC.out.mono ?_
        rintro e wn ⟨rfl, hwn⟩
        have KN := Lib.hid (bk_tr KB.out hwn)
        clear hwn
        cases bb with
        | false =>
          have EQ4 := EQ3.out
          rw [if_neg (by decide)] at EQ4
          subst EQ4
          go_wp2_with fail
          go_ret
          exact ⟨rfl, KN.out⟩
        | true =>
          have EQ4 := Lib.hid (show sameL (ts.drop (k + 1)) (us.drop (k + 1)) = r from by have := EQ3.out; rwa [if_pos rfl] at this)
          go_wp2_with fail
          go_roundw
          case rel => exact ⟨k + 1, by have := HLT.out; omega, by go_num, EQ4.out, KN.out⟩
          case measure => have := HLT.out; simp [intOf]; omega
  · rw [sameL_ne hn]
    have hne : ((ts.length : Int) != (us.length : Int)) = true := nn_cast hn
    clear hp hq ih hl
    generalize ts.length = n at *
    generalize us.length = m at *
    go_enter Try.func44, Try.ntmps44
    go_wp2_with fail
    go_ret
    exact ⟨rfl, BK.refl _⟩
set_option maxRecDepth 100000 in
set_option maxHeartbeats 4000000 in
theorem same28 (t : T) (hok : okT t) : SC 28 t := by
  induction t using T.ind with
  | h a ts ih =>
    intro u w p q c d hp0 hq0
    cases u with
    | mk b us =>
    rw [okT_mk] at hok
    have hp : RowD (mem 0 w) w p c ts := hp0
    have hq : RowD (mem 0 w) w q d us := hq0
    show Calls Try.prog 28 #[.agg #[.string a, .slice p ts.length c], .agg #[.string b, .slice q us.length d]] w _
    have K1 := bk_alloc (BK.refl w) (.cells #[.string a, .slice p ts.length c] 25)
    have K2 := bk_alloc (BK.refl (w.alloc (.cells #[.string a, .slice p ts.length c] 25))) (.cells #[.string b, .slice q us.length d] 25)
    have KK := Lib.hid (bk_tr K1 K2)
    have S1 := sz1 w (.cells #[.string a, .slice p ts.length c] 25)
    have N1 := (bk_block K2 (by rw [S1]; omega)).trans (heap_alloc_new w (.cells #[.string a, .slice p ts.length c] 25))
    have N2 := heap_alloc_new (w.alloc (.cells #[.string a, .slice p ts.length c] 25)) (.cells #[.string b, .slice q us.length d] 25)
    rw [S1] at N2
    have x0 := cell_of_row _ w.heap.size 0 _ 25 (0, 0) N1
    have x1 := cell_of_row _ w.heap.size 1 _ 25 (0, 0) N1
    have y0 := cell_of_row _ (w.heap.size + 1) 0 _ 25 (0, 0) N2
    have y1 := cell_of_row _ (w.heap.size + 1) 1 _ 25 (0, 0) N2
    have C16 := Lib.hid (fun wc (hb : BK ((w.alloc (.cells #[.string a, .slice p ts.length c] 25)).alloc (.cells #[.string b, .slice q us.length d] 25)) wc) => equal44 ts us hok.2.1 (fun t ht => ih t ht (okL_iff.1 hok.2.2 t ht)) wc p q c d ((hp.bk KK.out (Nat.le_refl _)).bk hb (Nat.le_refl _)) ((hq.bk KK.out (Nat.le_refl _)).bk hb (Nat.le_refl _)))
    clear hp hq ih K1 K2 N1 N2 hp0 hq0 hok
    rw [sameT_mk]
    by_cases hab : a = b
    · subst hab
      rw [if_pos rfl]
      generalize sameL ts us = r at *
      have CW := Lib.hid (C16.out _ (BK.refl _))
      go_enter Try.func28, Try.ntmps28
      go_wp2_with fail
      refine CW.out.mono ?_
      rintro e w3 ⟨rfl, hb3⟩
      have K3 := Lib.hid hb3
      clear hb3
      go_wp2_with fail
      go_ret
      exact ⟨rfl, bk_tr KK.out K3.out⟩
    · rw [if_neg hab]
      have hne : ¬ a.toList = b.toList := fun e => hab (str_inj e)
      clear hab
      go_enter Try.func28, Try.ntmps28
      go_wp2_with fail
      go_ret
      exact ⟨rfl, KK.out⟩
end Go.Proofs.Ytgiheheakgigkaa
