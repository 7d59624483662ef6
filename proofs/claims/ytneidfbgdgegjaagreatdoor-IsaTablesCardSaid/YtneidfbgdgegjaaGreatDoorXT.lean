/- The law Tables. -/
import Derived.Test.YtneidfbgdgegjaaGreatDoorWL
import Derived.Test.YtneidfbgdgegjaaGreatDoorRX
namespace Go.Proofs.YtneidfbgdgegjaaGreatDoor
open Go.RowKit Go.Shelf
set_option linter.unusedVariables false
set_option linter.unusedSimpArgs false
theorem ofV_cases (s : ByteArray) : ∃ (x : Int) (y : Bool), ofV s = .tuple #[.int .i64 x, .bool y] := by
  unfold ofV
  cases ofL (bl s) with
  | some k => exact ⟨_, _, rfl⟩
  | none => exact ⟨_, _, rfl⟩
theorem ofV_name {op : Int} (h : opB op = true) : ofV (nameB op) = .tuple #[.int .i64 op, .bool true] := by
  have hr : 0 ≤ op ∧ op ≤ 19 := by unfold opB at h; exact of_decide_eq_true h
  obtain ⟨n, rfl⟩ := Int.eq_ofNat_of_zero_le hr.1
  have hn : n < 20 := by omega
  have e : ofL (bl (nameB (n : Int))) = some n := by
    unfold nameB nameL
    rw [if_pos h]
    show ofL (nmT.getD n []) = some n
    have : ∀ k < 20, ofL (nmT.getD k []) = some k := by decide
    exact this n hn
  unfold ofV
  rw [e]
set_option maxRecDepth 100000 in
set_option maxHeartbeats 4000000 in
theorem tables_law (op : Int) (h64 : In64 op) (s : ByteArray) (w : World) (ht : Tb w) : Calls Tryz.prog 3 #[.int .i64 op, .string s] w fun e w' => e = .returned (.bool true) ∧ BK w w' := by
  have HT := Lib.hid ht
  have LV := Lib.hid (fun wc (hb : BK w wc) => live10 wc (ht.keep hb))
  clear ht
  by_cases hs : 100 < s.size
  · have hi : (100 : Int) < (s.size : Int) := by omega
    have D := Lib.hid (LV.out w (BK.refl w))
    clear hs
    go_enter Tryz.func3, Tryz.ntmps3
    go_wp2_with fail
    refine D.out.mono ?_
    rintro e w1 ⟨rfl, b1⟩
    have K1 := Lib.hid b1
    clear b1
    go_wp2_with fail
    go_ret
    exact ⟨rfl, K1.out⟩
  · have hi : ¬ (100 : Int) < (s.size : Int) := by omega
    obtain ⟨x, y, hxy⟩ := ofV_cases s
    have A := Lib.hid (show ∀ W, Tb W → Calls Tryz.prog 11 #[.string s] W fun e w' => e = .returned (.tuple #[.int .i64 x, .bool y]) ∧ W = w' from fun W hT => by rw [← hxy]; exact of11 s W hT)
    have B := Lib.hid (show ∀ W, Calls Tryz.prog 12 #[.string s] W fun e w' => e = .returned (.tuple #[.int .i64 x, .bool y]) ∧ BK W w' from fun W => by rw [← hxy]; exact of12 s W)
    clear hxy hs
    have N1 := Lib.hid (fun W (hT : Tb W) => name13 op W hT)
    have N2 := Lib.hid (fun W => name15 op W)
    have O1 := Lib.hid (fun W (hT : Tb W) => of11 (nameB op) W hT)
    have KN := Lib.hid (fun W => kn14 op W)
    have S1 := Lib.hid (fun W => src86 op W)
    have S2 := Lib.hid (fun W => src17 op W)
    have T1 := Lib.hid (fun W => trp18 op W)
    have T2 := Lib.hid (fun W => trp19 op W)
    have P1 := Lib.hid (fun W => price20 op W)
    have P2 := Lib.hid (fun W => price21 op W)
    generalize srcs op = sv at S1 S2
    generalize trB op = tv at T1 T2
    generalize priceV op = pv at P1 P2
    have HF := Lib.hid (show ∃ (u : Int) (v : Bool), ofV (nameB op) = .tuple #[.int .i64 u, .bool v] ∧ (opB op = true → v = true ∧ u = op) from by
      cases ho : opB op with
      | true => exact ⟨op, true, ofV_name ho, fun _ => ⟨rfl, rfl⟩⟩
      | false => obtain ⟨u, v, h⟩ := ofV_cases (nameB op); exact ⟨u, v, h, fun h => by cases h⟩)
    obtain ⟨u, v, huv, hk⟩ := HF.out
    rw [huv] at O1
    have HK := Lib.hid hk
    clear HF huv hk
    generalize nameB op = nm at N1 N2 O1
    generalize opB op = kb at KN HK
    go_enter Tryz.func3, Tryz.ntmps3
    go_upto_region 4 with (go_at_call 11; refine (A.out _ HT.out).mono ?_; rintro e w' ⟨rfl, rfl⟩)
    have B1 := Lib.hid (B.out w)
    go_upto_region 5 with (go_at_call 12; refine B1.out.mono ?_; rintro e w1 ⟨rfl, b1⟩)
    have K1 := Lib.hid b1
    have HT1 := Lib.hid (HT.out.keep b1)
    clear b1 B B1 A
    have C1 := Lib.hid (N1.out w1 HT1.out)
    have C2 := Lib.hid (O1.out w1 HT1.out)
    go_upto_region 6 with (first | (go_at_call 13; refine C1.out.mono ?_; rintro e w' ⟨rfl, rfl⟩) | (go_at_call 11; refine C2.out.mono ?_; rintro e w' ⟨rfl, rfl⟩))
    clear C1 C2 O1
    have C3 := Lib.hid (KN.out w1)
    cases kb with
    | true =>
      obtain ⟨rfl, rfl⟩ := HK.out rfl
      go_upto_region 8 with (go_at_call 14; refine C3.out.mono ?_; rintro e w' ⟨rfl, rfl⟩)
      have C13 := Lib.hid (N1.out w1 HT1.out)
      have C15 := Lib.hid (N2.out w1)
      clear C3 KN
      go_wp2_with (first | (go_at_call 13; refine C13.out.mono ?_; rintro e w' ⟨rfl, rfl⟩) | (go_at_call 15; refine C15.out.mono ?_; rintro e w2 ⟨rfl, b2⟩; have K2 := Lib.hid (bk_tr K1.out b2); clear b2) | (go_at_call 16; refine (S1.out _).mono ?_; rintro e w' ⟨rfl, rfl⟩) | (go_at_call 17; refine (S2.out _).mono ?_; rintro e w' ⟨rfl, rfl⟩) | (go_at_call 18; refine (T1.out _).mono ?_; rintro e w' ⟨rfl, rfl⟩) | (go_at_call 19; refine (T2.out _).mono ?_; rintro e w' ⟨rfl, rfl⟩) | (go_at_call 20; refine (P1.out _).mono ?_; rintro e w' ⟨rfl, rfl⟩) | (go_at_call 21; refine (P2.out _).mono ?_; rintro e w' ⟨rfl, rfl⟩) | (go_at_call 10; refine (LV.out _ K2.out).mono ?_; rintro e w3 ⟨rfl, b3⟩; have K3 := Lib.hid (bk_tr K2.out b3); clear b3))
      go_ret
      exact ⟨rfl, K3.out⟩
    | false =>
      go_upto_region 8 with (go_at_call 14; refine C3.out.mono ?_; rintro e w' ⟨rfl, rfl⟩)
      have C13 := Lib.hid (N1.out w1 HT1.out)
      have C15 := Lib.hid (N2.out w1)
      clear C3 KN
      go_wp2_with (first | (go_at_call 13; refine C13.out.mono ?_; rintro e w' ⟨rfl, rfl⟩) | (go_at_call 15; refine C15.out.mono ?_; rintro e w2 ⟨rfl, b2⟩; have K2 := Lib.hid (bk_tr K1.out b2); clear b2) | (go_at_call 16; refine (S1.out _).mono ?_; rintro e w' ⟨rfl, rfl⟩) | (go_at_call 17; refine (S2.out _).mono ?_; rintro e w' ⟨rfl, rfl⟩) | (go_at_call 18; refine (T1.out _).mono ?_; rintro e w' ⟨rfl, rfl⟩) | (go_at_call 19; refine (T2.out _).mono ?_; rintro e w' ⟨rfl, rfl⟩) | (go_at_call 20; refine (P1.out _).mono ?_; rintro e w' ⟨rfl, rfl⟩) | (go_at_call 21; refine (P2.out _).mono ?_; rintro e w' ⟨rfl, rfl⟩) | (go_at_call 10; refine (LV.out _ K2.out).mono ?_; rintro e w3 ⟨rfl, b3⟩; have K3 := Lib.hid (bk_tr K2.out b3); clear b3))
      go_ret
      exact ⟨rfl, K3.out⟩
end Go.Proofs.YtneidfbgdgegjaaGreatDoor
