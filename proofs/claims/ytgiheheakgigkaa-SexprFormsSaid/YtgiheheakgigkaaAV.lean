/- The law Prints. -/
import Derived.Test.YtgiheheakgigkaaAU
namespace Go.Proofs.Ytgiheheakgigkaa
open Go.RowKit
set_option linter.unusedVariables false
set_option linter.unusedSimpArgs false
theorem fewB_iff {t : T} {l : Int} : fewB t l = true ↔ 0 ≤ wT t l := by unfold fewB; split <;> simp_all
theorem few_size {ts : List T} (hl : ts.length ≤ 20) (h : ∀ t ∈ ts, fewB t 300 = true) : (prA ⟨#[]⟩ ts).size ≤ 1000000 := by
  have key : ∀ (ts : List T), (∀ t ∈ ts, fewB t 300 = true) → (ts.map fun t => (prT t).size + 1).sum ≤ ts.length * 30601 := by
    intro ts
    induction ts with
    | nil => intro _; simp
    | cons t ts ih =>
      intro h
      have h1 := few_pr (t := t) (l := 300) (fewB_iff.1 (h t (by simp)))
      have h2 := ih fun u hu => h u (by simp [hu])
      simp only [List.map_cons, List.sum_cons, List.length_cons]
      omega
  have h1 := key ts h
  rw [prA_size]
  have e0 : (⟨#[]⟩ : ByteArray).size = 0 := rfl
  omega
set_option maxRecDepth 100000 in
set_option maxHeartbeats 8000000 in
theorem prints_law (ts : List T) (hln : ts.length ≤ maxLen) (hok : okL ts) (w : World) (p : Option Addr) (c : Nat) (hp : RowD (mem 0 w) w p c ts) : Calls Try.prog 4 #[.slice p ts.length c] w fun e w' => e = .returned (.bool true) ∧ BK w w' := by
  have LV := Lib.hid live10
  by_cases h20 : ts.length ≤ 20
  · have g1 : ¬ (20 : Int) < (ts.length : Int) := by omega
    have HL := Lib.hid h20
    have HP := Lib.hid hp
    have OK := Lib.hid (fun t ht => okL_iff.1 hok t ht)
    have E19 := Lib.hid (fun t w p c h1 h2 => ref19 t w p c h1 h2)
    clear hp hok hln h20
    go_enter Try.func4, Try.ntmps4
    go_wp2_with fail
    clear g1
    go_loopw [3] (fun iv wr => ∃ (k : Nat), k ≤ ts.length ∧ iv = .int .i64 (k : Int) ∧ (∀ t ∈ ts.take k, fewB t 300 = true) ∧ BK w wr) (fun iv _ => ts.length - (intOf iv).toNat)
    case atStart => exact ⟨0, Nat.zero_le _, rfl, fun t ht => by simp at ht, BK.refl _⟩
    case round =>
      obtain ⟨k, hk, rfl, hfew, hb⟩ := hrel
      have FW := Lib.hid hfew
      have KB := Lib.hid hb
      clear hfew hb
      by_cases e : k = ts.length
      · have hd : decide (k < ts.length) = false := by simp [e]
        have SZ := Lib.hid (few_size HL.out (fun t ht => FW.out t (by rw [List.take_of_length_le (by omega)]; exact ht)))
        have C20 := Lib.hid (all20 ts wr p c (HP.out.bk KB.out (Nat.le_refl _)) SZ.out)
        have C21 := Lib.hid (fun wc (hb : BK wr wc) => refall21 ts wc p c ((HP.out.bk KB.out (Nat.le_refl _)).bk hb (Nat.le_refl _)) SZ.out)
        clear SZ FW
        generalize prA ⟨#[]⟩ ts = PA at *
        subst e
        go_wp2_with fail
        refine C20.out.mono ?_
        rintro e w2 ⟨rfl, hb2⟩
        have K2 := Lib.hid hb2
        clear hb2
        have D21 := Lib.hid (C21.out _ K2.out)
        go_wp2_with fail
        refine D21.out.mono ?_
        rintro e w3 ⟨rfl, hb3⟩
        have K3 := Lib.hid hb3
        clear hb3
        have D10 := Lib.hid (LV.out w3)
        go_wp2_with fail
        refine D10.out.mono ?_
        rintro e w4 ⟨rfl, hb4⟩
        have K4 := Lib.hid hb4
        clear hb4
        go_wp2_with fail
        go_ret
        exact ⟨rfl, bk_tr KB.out (bk_tr K2.out (bk_tr K3.out K4.out))⟩
      · have hlt : k < ts.length := by omega
        have hd : decide (k < ts.length) = true := by simpa using hlt
        obtain ⟨b, o, a', us, q, d, rfl, -, he, z0, z1, hrr⟩ := (HP.out.bk KB.out (Nat.le_refl _)).get hlt
        have OKT := Lib.hid (OK.out _ (List.getElem_mem hlt))
        have FB := Lib.hid (List.take_succ_eq_append_getElem hlt)
        rw [he] at OKT FB
        have C17 := Lib.hid (show Calls Try.prog 17 #[.agg #[.string a', .slice q us.length d], .int .i64 300] wr _ from few17 (.mk a' us) OKT.out wr q d 300 hrr (by omega) (by omega))
        have FI := Lib.hid (fun (h : fewB (T.mk a' us) 300 = true) => few_pr (t := T.mk a' us) (l := 300) (fewB_iff.1 h))
        have RR := Lib.hid hrr
        have Z0 := Lib.hid z0
        have Z1 := Lib.hid z1
        have ei : IntKind.i64.wrap ((k : Int) + 1) = (k : Int) + 1 := by have := HL.out; exact IntWalk.i64_in _ (by omega)
        have hki : (k : Int) < (ts.length : Int) := by omega
        have HLT := Lib.hid hlt
        clear he e hrr
        generalize hfb : fewB (T.mk a' us) 300 = fb at *
        cases fb with
        | false =>
          go_wp2_with fail
          refine C17.out.mono ?_
          rintro e w2 ⟨rfl, hb2⟩
          have K2 := Lib.hid hb2
          clear hb2
          have D10 := Lib.hid (LV.out w2)
          go_wp2_with fail
          refine D10.out.mono ?_
          rintro e w4 ⟨rfl, hb4⟩
          have K4 := Lib.hid hb4
          clear hb4
          go_wp2_with fail
          go_ret
          exact ⟨rfl, bk_tr KB.out (bk_tr K2.out K4.out)⟩
        | true =>
          have SZ := Lib.hid (FI.out rfl)
          have HFB := Lib.hid hfb
          clear hfb
          go_wp2_with fail
          refine C17.out.mono ?_
          rintro e w2 ⟨rfl, hb2⟩
          have K2 := Lib.hid hb2
          clear hb2 z0 z1
          have KD := Lib.hid (fun wc (hb : BK w2 wc) => cells2 Z0.out Z1.out (bk_tr K2.out hb))
          have C18 := Lib.hid (fun wc (hb : BK w2 wc) => show Calls Try.prog 18 #[.agg #[.string a', .slice q us.length d]] wc (fun e w' => e = .returned (.string (prT (T.mk a' us))) ∧ BK w2 w') from (print18 (.mk a' us) wc q d (RR.out.bk (bk_tr K2.out hb) (Nat.le_refl _)) (by have := SZ.out; omega)).mono fun e w' ⟨h1, h2⟩ => ⟨h1, bk_tr hb h2⟩)
          have C19 := Lib.hid (fun wc (hb : BK w2 wc) => show Calls Try.prog 19 #[.agg #[.string a', .slice q us.length d]] wc (fun e w' => e = .returned (.string (prT (T.mk a' us))) ∧ BK w2 w') from (ref19 (.mk a' us) wc q d (RR.out.bk (bk_tr K2.out hb) (Nat.le_refl _)) (by have := SZ.out; omega)).mono fun e w' ⟨h1, h2⟩ => ⟨h1, bk_tr hb h2⟩)
          generalize prT (T.mk a' us) = PT at *
          go_wp2_with fail
          refine wp_region_class (C := fun w' => BK w2 w') (by kernel_rfl) (by kernel_rfl) (bk_drew (BK.refl _)) ?_
          repeat (first
            | go_big_quiet_step (fail)
            | (refine wpQuiet_step (fun K hK => ?_)
               go_simp
               first
                 | (refine hK _ ?_; clear hK K)
                 | (refine ⟨_, fun _ _ => rfl, hK _ ?_⟩; clear hK K)
                 | (apply Exists.intro; refine ⟨fun w5 hw5 => ?_, hK _ ?_⟩; (go_at_call 19; with_reducible exact C19.out _ hw5); clear hK K)
                 | (apply Exists.intro; refine ⟨fun w5 hw5 => ?_, hK _ ?_⟩; (go_at_call 18; with_reducible exact C18.out _ hw5); clear hK K)
                 | (apply Exists.intro; refine ⟨fun w5 hw5 => ?_, hK _ ?_⟩; (obtain ⟨q0, q1⟩ := KD.out _ hw5; go_simp; rfl); clear hK K)))
          refine wpQuiet_nil ?_
          intro wn hwn
          have KN := Lib.hid (bk_tr KB.out (bk_tr K2.out hwn))
          clear hwn
          go_wp2_with fail
          go_roundw
          case rel => exact ⟨k + 1, by have := HLT.out; omega, by go_num, fun t ht => by
            rw [FB.out] at ht
            rcases List.mem_append.1 ht with h | h
            · exact FW.out t h
            · rw [List.mem_singleton.1 h]; exact HFB.out, KN.out⟩
          case measure => have := HLT.out; simp [intOf]; omega
  · have g1 : (20 : Int) < (ts.length : Int) := by omega
    have D10 := Lib.hid (LV.out w)
    clear hp hok hln h20
    generalize ts.length = n at *
    go_enter Try.func4, Try.ntmps4
    go_wp2_with fail
    refine D10.out.mono ?_
    rintro e w4 ⟨rfl, hb4⟩
    have K4 := Lib.hid hb4
    clear hb4
    go_wp2_with fail
    go_ret
    exact ⟨rfl, K4.out⟩
end Go.Proofs.Ytgiheheakgigkaa
