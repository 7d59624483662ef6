/- The law Twice. -/
import Derived.Test.YtgiheheakgigkaaAX
namespace Go.Proofs.Ytgiheheakgigkaa
open Go.RowKit
set_option linter.unusedVariables false
set_option linter.unusedSimpArgs false
set_option maxRecDepth 100000 in
set_option maxHeartbeats 8000000 in
theorem twice_ok (s : ByteArray) (hs : s.size ≤ 3000) (l : List T) (j : Nat) (hl : allR (xo s) = .ok l j) (w : World) : Calls Try.prog 7 #[.string s] w fun e w' => e = .returned (.bool true) ∧ BK w w' := by
  have LV := Lib.hid live10
  obtain ⟨h1, h2, h3⟩ := all_good (by omega) hl
  have hsz : (prA ⟨#[]⟩ l).size ≤ 6000 := by
    rw [prA_size]
    have e0 : (⟨#[]⟩ : ByteArray).size = 0 := rfl
    omega
  have HLL := Lib.hid (show l.length ≤ 3000 from by have := ndL_len l; omega)
  have C13 := Lib.hid (fun w => parse13 s (by omega) w)
  rw [hl] at C13
  have C20 := Lib.hid (fun w p c hr => all20 l w p c hr (by omega))
  have D13 := Lib.hid (fun w => parse13 (prA ⟨#[]⟩ l) (by omega) w)
  rw [printall_parse (fun t ht => ⟨(h1 t ht).1, (h1 t ht).2.1⟩)] at D13
  have C22 := Lib.hid (fun t (ht : t ∈ l) => valid22 t (by have := ndL_mem ht; omega) (h1 t ht).2.2)
  have VA := Lib.hid (fun t (ht : t ∈ l) => vaT_iff.2 ⟨(h1 t ht).1, (h1 t ht).2.1⟩)
  have S16 := Lib.hid (all16 l l (by have := ndL_len l; unfold maxLen; omega) (fun t ht => same15 t (good_ok (h1 t ht) (n := s.size) (Nat.le_trans (ndL_mem ht) h2) (by omega))))
  rw [sameL_self] at S16
  unfold PAP at C13 D13
  dsimp only at C13 D13
  have g1 : ¬ (3000 : Int) < (s.size : Int) := by omega
  clear h1 h2 h3 hsz hl hs
  generalize prA ⟨#[]⟩ l = PA at *
  generalize hn : s.size = n at *
  go_enter Try.func7, Try.ntmps7
  go_wp2_with fail
  refine (C13.out _).mono ?_
  rintro e w1 ⟨⟨p, c, rfl, hr⟩, hb1⟩
  have K1 := Lib.hid hb1
  have R1 := Lib.hid (hr.bk (BK.refl _) (Nat.zero_le _))
  clear hr hb1 g1
  go_wp2_with fail
  go_loopw [6] (fun iv wr => ∃ (k : Nat), k ≤ l.length ∧ iv = .int .i64 (k : Int) ∧ BK w1 wr) (fun iv _ => l.length - (intOf iv).toNat)
  case atStart => exact ⟨0, Nat.zero_le _, rfl, BK.refl _⟩
  case round =>
    obtain ⟨k, hk, rfl, hb⟩ := hrel
    have KB := Lib.hid hb
    clear hb
    by_cases e : k = l.length
    · have hd : decide (k < l.length) = false := by simp [e]
      have E20 := Lib.hid (C20.out wr p c (R1.out.bk KB.out (Nat.le_refl _)))
      subst e
      go_wp2_with fail
      refine E20.out.mono ?_
      rintro e w2 ⟨rfl, hb2⟩
      have K2 := Lib.hid (bk_tr KB.out hb2)
      clear hb2
      go_wp2_with fail
      refine (D13.out _).mono ?_
      rintro e w3 ⟨⟨p3, c3, rfl, hr3⟩, hb3⟩
      have K3 := Lib.hid (bk_tr K2.out hb3)
      have D16 := Lib.hid (S16.out w3 p p3 c c3 (R1.out.bk K3.out (Nat.le_refl _)) (hr3.bk (BK.refl _) (Nat.zero_le _)))
      clear hb3 hr3
      go_wp2_with fail
      refine D16.out.mono ?_
      rintro e w4 ⟨rfl, hb4⟩
      have K4 := Lib.hid (bk_tr K3.out hb4)
      clear hb4
      have D10 := Lib.hid (LV.out w4)
      go_wp2_with fail
      refine D10.out.mono ?_
      rintro e w8 ⟨rfl, hb8⟩
      have K8 := Lib.hid hb8
      clear hb8
      go_wp2_with fail
      go_ret
      exact ⟨rfl, bk_tr K1.out (bk_tr K4.out K8.out)⟩
    · have hlt : k < l.length := by omega
      have hd : decide (k < l.length) = true := by simpa using hlt
      obtain ⟨b, o, a', us, q, d, rfl, -, he, z0, z1, hrr⟩ := (R1.out.bk KB.out (Nat.le_refl _)).get hlt
      have hv := VA.out _ (List.getElem_mem hlt)
      have CC := Lib.hid (show Calls Try.prog 22 #[.agg #[.string a', .slice q us.length d]] wr (fun e w' => e = .returned (.bool true) ∧ BK wr w') from by
        have := C22.out l[k] (List.getElem_mem hlt) wr q d (by rw [he]; exact hrr)
        rw [hv, he] at this
        exact this)
      have ei : IntKind.i64.wrap ((k : Int) + 1) = (k : Int) + 1 := by have := HLL.out; exact IntWalk.i64_in _ (by omega)
      have hki : (k : Int) < (l.length : Int) := by omega
      have HLT := Lib.hid hlt
      clear hrr he hv e
      go_wp2_with fail
      refine CC.out.mono ?_
      rintro e w2 ⟨rfl, hb2⟩
      have K2 := Lib.hid (bk_tr KB.out hb2)
      clear hb2
      go_wp2_with fail
      go_roundw
      case rel => exact ⟨k + 1, by have := HLT.out; omega, by go_num, K2.out⟩
      case measure => have := HLT.out; simp [intOf]; omega
set_option maxRecDepth 100000 in
set_option maxHeartbeats 8000000 in
theorem twice_law (s : ByteArray) (hm : s.size ≤ maxLen) (w : World) : Calls Try.prog 7 #[.string s] w fun e w' => e = .returned (.bool true) ∧ BK w w' := by
  by_cases h1 : s.size ≤ 3000
  · cases h : allR (xo s) with
    | ok l j => exact twice_ok s h1 l j h w
    | err j c =>
      have LV := Lib.hid live10
      have C13 := Lib.hid (fun w => parse13 s (by omega) w)
      rw [h] at C13
      unfold PAP at C13
      dsimp only at C13
      have qc : ((c : Int) != 0) = true := nn_cast (alF_c _ _ _ _ _ h)
      have g1 : ¬ (3000 : Int) < (s.size : Int) := by omega
      clear h1 hm h
      generalize hn : s.size = n at *
      go_enter Try.func7, Try.ntmps7
      go_wp2_with fail
      refine (C13.out _).mono ?_
      rintro e w1 ⟨rfl, hb1⟩
      have K1 := Lib.hid hb1
      clear hb1
      have D10 := Lib.hid (LV.out w1)
      go_wp2_with fail
      refine D10.out.mono ?_
      rintro e w8 ⟨rfl, hb8⟩
      have K8 := Lib.hid hb8
      clear hb8
      go_wp2_with fail
      go_ret
      exact ⟨rfl, bk_tr K1.out K8.out⟩
  · have LV := Lib.hid (live10 w)
    have g1 : (3000 : Int) < (s.size : Int) := by omega
    clear h1 hm
    generalize hn : s.size = n at *
    go_enter Try.func7, Try.ntmps7
    go_wp2_with fail
    refine LV.out.mono ?_
    rintro e w7 ⟨rfl, hb7⟩
    have K7 := Lib.hid hb7
    clear hb7
    go_wp2_with fail
    go_ret
    exact ⟨rfl, K7.out⟩
end Go.Proofs.Ytgiheheakgigkaa
