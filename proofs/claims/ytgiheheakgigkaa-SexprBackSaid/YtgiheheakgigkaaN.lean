/- The reference: all s-expressions of a text. -/
import Derived.Test.YtgiheheakgigkaaM
namespace Go.Proofs.Ytgiheheakgigkaa
open Go.RowKit
set_option linter.unusedVariables false
set_option linter.unusedSimpArgs false
/-- what ParseAll leaves -/
def PAP (w : World) (r : R (List T)) (e : Ending) (w' : World) : Prop := (match r with
  | .ok l _ => ∃ p c, e = .returned (.tuple #[.slice p l.length c, .int .i64 0, .int .i64 0]) ∧ RowD (mem w.heap.size w') w' p c l
  | .err j c => e = .returned (.tuple #[.slice none 0 0, .int .i64 (j : Int), .int .i64 (c : Int)])) ∧ BK w w'
theorem results_ttt {P : Program} {fn : Func} {p u v : Tmp} (h : fn.results = #[.tmp p, .tmp u, .tmp v]) (tmps : Array Value) (w : World) {x y z : Value} (hx : tmps.getD p undef = x) (hy : tmps.getD u undef = y) (hz : tmps.getD v undef = z) : (results fn tmps).run P w = .ok (.tuple #[x, y, z]) w := by
  have hx' : tmps[p]?.getD undef = x := by simpa using hx
  have hy' : tmps[u]?.getD undef = y := by simpa using hy
  have hz' : tmps[v]?.getD undef = z := by simpa using hz
  simp [results, h, hx', hy', hz']
theorem alF_c {x : X} : ∀ k acc i j c, alF x k acc i = .err j c → c ≠ 0
  | 0, acc, i, j, c, q => by cases q
  | k + 1, acc, i, j, c, q => by
    unfold alF at q
    split at q
    · split at q
      · exact alF_c k _ _ _ _ q
      · rename_i he
        cases q
        exact exR_c _ _ _ _ he
    · cases q
/-- while the reference reads a text -/
structure AR (w : World) (s : ByteArray) (RR : R (List T)) (v : Value) (acc : List T) (fu i : Nat) (wr : World) : Prop where
  lv : LV w.heap.size wr v acc
  al : acc.length ≤ i
  il : i ≤ s.size
  fl : s.size - i < fu
  eq : alF (xo s) fu acc i = RR
  bk : BK w wr
set_option maxHeartbeats 1000000 in
theorem ref14_long (s : ByteArray) (hs : 65536 < s.size) (hm : s.size ≤ maxLen) (w : World) : Calls Try.prog 14 #[.string s] w (PAP w (.err 0 7)) := by
  have hi : (65536 : Int) < (s.size : Int) := by omega
  go_enter Try.func14, Try.ntmps14
  go_wp2_with fail
  exact bodyPost_ret (results_ttt Try.results14 _ _ rfl rfl rfl) rfl ⟨rfl, BK.refl w⟩
set_option maxRecDepth 100000 in
set_option maxHeartbeats 4000000 in
theorem ref14 (s : ByteArray) (hs : s.size ≤ 65536) (w : World) : Calls Try.prog 14 #[.string s] w (PAP w (allR (xo s))) := by
  have hi : ¬ (65536 : Int) < (s.size : Int) := by omega
  have HE := Lib.hid (fun w i hi => one32 s (by omega) 64 0 rfl w i hi)
  have S33 := Lib.hid (fun w j hj => skip33 w s (by omega) j hj)
  have A33 := Lib.hid (fun w => skip33 w s (by omega) 0 (by omega))
  have E0 := Lib.hid (show AR w s (allR (xo s)) (.slice none 0 0) [] (s.size + 1) 0 w from ⟨LV.nil _ _, Nat.zero_le _, by omega, by omega, rfl, BK.refl _⟩)
  generalize allR (xo s) = RR at *
  go_enter Try.func14, Try.ntmps14
  go_wp2_with fail
  refine (A33.out _).mono ?_
  rintro e w' ⟨rfl, rfl⟩
  go_wp2_with fail
  go_loopw [5, 6] (fun v a wr => ∃ acc fu i, a = .int .i64 ((sk (xo s) false i : Nat) : Int) ∧ AR w s RR v acc fu i wr) (fun _ a _ => s.size + 1 - (intOf a).toNat)
  case atStart => exact ⟨_, _, _, rfl, E0.out⟩
  case round =>
    obtain ⟨acc, fu, i, rfl, hel⟩ := hrel
    have EH := Lib.hid hel
    obtain ⟨p, c, hv⟩ := hel.lv.shape
    subst hv
    have hal := hel.al
    have hil := hel.il
    have EQ := Lib.hid hel.eq
    obtain ⟨fu', rfl⟩ : ∃ f, fu = f + 1 := ⟨fu - 1, by have := hel.fl; omega⟩
    have FL := Lib.hid hel.fl
    clear hel
    have JG := Lib.hid (sk_ge (xo s) false i)
    have JL := Lib.hid (sk_le (xo s) false (i := i) hil)
    have EQ2 := EQ.out
    unfold alF at EQ2
    rw [xo_n] at EQ2 JL
    generalize hj : sk (xo s) false i = j at *
    have EQ3 := Lib.hid EQ2
    clear EQ2 hj EQ
    by_cases hjn : j < s.size
    · have hjd : decide (j < s.size) = true := by simpa using hjn
      have EQ5 := EQ3.out
      rw [if_pos hjn] at EQ5
      have HJN := Lib.hid hjn
      have EX := Lib.hid (fun w' => HE.out w' j HJN.out)
      clear hjn EQ3
      cases hex : exR (xo s) 64 j with
      | ok t j' =>
        rw [hex] at EQ5
        dsimp only at EQ5
        have GT := Lib.hid (exR_gt 64 j t j' HJN.out hex)
        rw [hex] at EX
        unfold ONP at EX
        dsimp only at EX
        have EQ7 := Lib.hid EQ5
        have C33 := Lib.hid (fun w => S33.out w j' GT.out.2)
        clear EQ5 hex
        go_wp2_with fail
        refine (EX.out _).mono ?_
        rintro e w2 ⟨⟨p2, c2, rfl, hr2⟩, hb2⟩
        have KK := Lib.hid hb2
        have R2 := Lib.hid hr2
        have SZ := Lib.hid (show wr.heap.size ≤ w2.heap.size from bk_size hb2)
        have L2 := Lib.hid (EH.out.lv.bk hb2)
        have VL := Lib.hid EH.out.lv.vlt
        have WS := Lib.hid (bk_size EH.out.bk)
        have al2 : acc.length ≤ 200000 := by omega
        have X3 := Lib.hid (bk_alloc (BK.refl w2) (.cells #[.string t.a, .slice p2 t.ts.length c2] 25))
        clear hb2 hr2 EX
        go_wp2_with (at_builtin; go_must (refine wpList_pushT rfl _ _ rfl w.heap.size (.slice p acc.length c) acc rfl (L2.out.bk X3.out) t p2 c2 wr.heap.size (by rw [sz1 w2]; rfl) WS.out (Nat.le_trans SZ.out (bk_size X3.out)) (fun g hg => (VL.out g hg).2) (R2.out.bk X3.out (Nat.le_refl _)) al2 ?_))
        intro g cap w3 hl3 hs3
        have L3 := Lib.hid hl3
        have S3 := Lib.hid hs3
        clear hl3 hs3
        go_wp2_with fail
        refine (C33.out _).mono ?_
        rintro e w' ⟨rfl, rfl⟩
        go_wp2_with fail
        go_roundw
        case rel => exact ⟨acc ++ [t], fu', j', rfl, ⟨L3.out, by have := GT.out; have := JG.out; rw [List.length_append]; simp; omega, GT.out.2, by have := GT.out; have := JG.out; have := FL.out; rw [xo_n] at *; omega, EQ7.out, bk_step (bk_tr (bk_tr EH.out.bk KK.out) X3.out) S3.out (fun g hg => (VL.out g hg).1)⟩⟩
        case measure => have := GT.out; have := sk_ge (xo s) false j'; have := JG.out; simp only [intOf, xo_n] at *; omega
      | err j' c' =>
        rw [hex] at EQ5
        dsimp only at EQ5
        have NC := exR_c 64 j j' c' hex
        have qc : ((c' : Int) != 0) = true := nn_cast NC
        rw [hex] at EX
        unfold ONP at EX
        dsimp only at EX
        subst EQ5
        clear hex NC
        go_wp2_with fail
        refine (EX.out _).mono ?_
        rintro e w2 ⟨rfl, hb2⟩
        have K2 := Lib.hid (bk_tr EH.out.bk hb2)
        clear hb2
        go_wp2_with fail
        exact bodyPost_ret (results_ttt Try.results14 _ _ rfl rfl rfl) rfl ⟨rfl, bk_alloc K2.out _⟩
    · have hjd : decide (j < s.size) = false := by simpa using hjn
      have EQ4 := EQ3.out
      rw [if_neg hjn] at EQ4
      subst EQ4
      clear EQ3 hjn
      go_wp2_with fail
      exact bodyPost_ret (results_ttt Try.results14 _ _ rfl rfl rfl) rfl ⟨⟨p, c, rfl, EH.out.lv.row⟩, EH.out.bk⟩
end Go.Proofs.Ytgiheheakgigkaa
