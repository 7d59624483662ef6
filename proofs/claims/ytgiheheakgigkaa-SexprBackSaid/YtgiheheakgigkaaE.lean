/- The elements of a list, read. -/
import Derived.Test.YtgiheheakgigkaaD
namespace Go.Proofs.Ytgiheheakgigkaa
open Go.RowKit
set_option linter.unusedVariables false
set_option linter.unusedSimpArgs false
def pan (j c : Nat) : Ending := .panicked [{ v := .iface 48 (.agg #[.int .i64 (j : Int), .int .i64 (c : Int)]), recovered := false }]
/-- what expression leaves -/
def EXP (w : World) (pb : Nat) (s : ByteArray) (r : R T) (e : Ending) (w' : World) : Prop := match r with
  | .ok t j => (∃ p c, e = .returned (.agg #[.string t.a, .slice p t.ts.length c]) ∧ RowD (mem w.heap.size w') w' p c t.ts) ∧ PB w' pb s j ∧ Step w w' (oneF pb) (oneF pb)
  | .err j c => e = pan j c ∧ Step w w' (oneF pb) (oneF pb)
/-- what elements leaves -/
def ELP (w : World) (pb : Nat) (s : ByteArray) (r : R (List T)) (e : Ending) (w' : World) : Prop := match r with
  | .ok l j => (∃ p c, e = .returned (.slice p l.length c) ∧ RowD (mem w.heap.size w') w' p c l) ∧ PB w' pb s j ∧ Step w w' (oneF pb) (oneF pb)
  | .err j c => e = pan j c ∧ Step w w' (oneF pb) (oneF pb)
/-- while a list is read -/
structure EL (w : World) (pb : Nat) (s : ByteArray) (ex : Nat → R T) (RR : R (List T)) (v : Value) (acc : List T) (fu i : Nat) (wr : World) : Prop where
  lv : LV w.heap.size wr v acc
  al : acc.length ≤ i
  il : i ≤ s.size
  fl : s.size - i < fu
  eq : elF (xo s) ex fu acc i = RR
  box : PB wr pb s i
  st : Step w wr (oneF pb) (oneF pb)
set_option maxRecDepth 100000 in
set_option maxHeartbeats 4000000 in
theorem elem50 (k d : Nat) (hd : d + k = 65) (s : ByteArray) (hs : s.size ≤ 100000) (pb : Nat)
    (HE : ∀ (w : World) (i : Nat), i < s.size → PB w pb s i → Calls Try.prog 36 #[.pointer (some ⟨pb, 0, none⟩), .int .i64 (d : Int)] w (EXP w pb s (exR (xo s) k i)))
    (w : World) (i fu : Nat) (hi : i ≤ s.size) (hfu : s.size - i < fu) (h : PB w pb s i) : Calls Try.prog 50 #[.pointer (some ⟨pb, 0, none⟩), .int .i64 (d : Int)] w (ELP w pb s (elF (xo s) (exR (xo s) k) fu [] i)) := by
  have hpl := h.lt
  have E0 := Lib.hid (show EL w pb s (exR (xo s) k) (elF (xo s) (exR (xo s) k) fu [] i) (.slice none 0 0) [] fu i w from ⟨LV.nil _ _, Nat.zero_le _, hi, hfu, rfl, h, Step.refl _ _⟩)
  have HEH := Lib.hid HE
  have HPL := Lib.hid hpl
  clear h HE hpl hfu hi
  generalize elF (xo s) (exR (xo s) k) fu [] i = RR at *
  go_enter Try.func50, Try.ntmps50
  go_wp2_with fail
  go_loopw [5] (fun v wr => ∃ acc fu i, EL w pb s (exR (xo s) k) RR v acc fu i wr) (fun _ wr => s.size + 1 - posOf pb wr)
  case atStart => exact ⟨_, _, _, E0.out⟩
  case round =>
    obtain ⟨acc, fu, i, hel⟩ := hrel
    have EH := Lib.hid hel
    have SKC := Lib.hid (skip35 wr pb s i hel.box hs hel.il)
    have LN := Lib.hid (posOf_eq hel.box)
    obtain ⟨p, c, hv⟩ := hel.lv.shape
    subst hv
    have hal := hel.al
    have hil := hel.il
    have EQ := Lib.hid hel.eq
    obtain ⟨fu', rfl⟩ : ∃ f, fu = f + 1 := ⟨fu - 1, by have := hel.fl; omega⟩
    have FL := Lib.hid hel.fl
    clear hel
    have JG := Lib.hid (sk_ge (xo s) false i)
    have JL := Lib.hid (sk_le (xo s) false (i := i) hil)
    have EQ2 := EQ.out
    unfold elF at EQ2
    rw [xo_n] at EQ2 JL
    generalize hj : sk (xo s) false i = j at *
    have EQ3 := Lib.hid EQ2
    clear EQ2 hj EQ
    by_cases hjn : j < s.size
    · have hjd : decide (j < s.size) = true := by simpa using hjn
      have hx := idx9 hjn
      have EQ4 := EQ3.out
      rw [if_pos hjn] at EQ4
      have HJN := Lib.hid hjn
      have EX := Lib.hid (fun w' h => HEH.out w' j HJN.out h)
      clear hjn
      generalize (xo s).f j = ch at *
      by_cases h41 : ch = 41
      · subst h41
        rw [if_pos rfl] at EQ4
        have EQ5 := Lib.hid EQ4
        clear EQ4 EQ3
        unfold SKP at SKC
        rw [hjd] at SKC
        go_wp2_with fail
        refine SKC.out.mono ?_
        rintro e w1 ⟨rfl, hp1, hs1⟩
        have P1 := Lib.hid hp1
        have S1 := Lib.hid hs1
        have c0 := hp1.c0
        have c1 := hp1.c1
        have fr1 := hp1.fr 1
        have ei : IntKind.i64.wrap ((j : Int) + 1) = (j : Int) + 1 := by have := HJN.out; exact IntWalk.i64_in _ (by omega)
        have PN := Lib.hid (fun q1 => show PB ((w1.drewN q1).setCell ⟨pb, 1, none⟩ (.int .i64 ((j : Int) + 1))) pb s (j + 1) from (hp1.drewN q1).set (j + 1))
        clear hp1 hs1 SKC
        go_wp2_with fail
        go_quiet (fail)
        go_wp2_with fail
        go_ret
        have ST := S1.out.trans ((step_drewN (w := w1) (F := oneF pb) nq).trans (step_set 1 (.int .i64 ((j : Int) + 1))))
        unfold ELP
        rw [← EQ5.out]
        exact ⟨⟨p, c, rfl, (EH.out.lv.step ST HPL.out).row⟩, PN.out _, EH.out.st.trans ST⟩
      · have q41 := ne_cast h41
        rw [if_neg h41] at EQ4
        have EQ5 := Lib.hid EQ4
        clear EQ4 EQ3 h41
        unfold SKP at SKC
        rw [hjd] at SKC
        cases hex : exR (xo s) k j with
        | ok t j' =>
          have EQ6 := EQ5.out
          rw [hex] at EQ6
          dsimp only at EQ6
          have GT := Lib.hid (exR_gt k j t j' HJN.out hex)
          rw [hex] at EX
          unfold EXP at EX
          dsimp only at EX
          have EQ7 := Lib.hid EQ6
          clear EQ6 EQ5 hex
          go_wp2_with fail
          refine SKC.out.mono ?_
          rintro e w1 ⟨rfl, hp1, hs1⟩
          have P1 := Lib.hid hp1
          have S1 := Lib.hid hs1
          have c0 := hp1.c0
          have c1 := hp1.c1
          have EX2 := Lib.hid (fun q1 => EX.out (w1.drewN q1) (hp1.drewN q1))
          clear hp1 hs1 SKC EX
          go_wp2_with fail
          go_quiet (fail)
          go_wp2_with fail
          refine (EX2.out _).mono ?_
          rintro e w2 ⟨⟨p2, c2, rfl, hr2⟩, hp2, hs2⟩
          have ST := Lib.hid (S1.out.trans ((step_drewN (w := w1) (F := oneF pb) nq).trans hs2))
          have R2 := Lib.hid hr2
          have P2 := Lib.hid hp2
          have L2 := Lib.hid (EH.out.lv.step ST.out HPL.out)
          have SZ := Lib.hid (show wr.heap.size ≤ w1.heap.size ∧ w1.heap.size ≤ w2.heap.size from ⟨S1.out.size, hs2.size⟩)
          have VL := Lib.hid (show ∀ g, (Value.slice p acc.length c).ownBlock = some g → w.heap.size ≤ g ∧ g < wr.heap.size from fun g hg => by
            obtain ⟨xs, h1, _⟩ := EH.out.lv.own
            exact h1.lt g hg)
          clear hr2 hp2 hs2 c0 c1 EX2
          have al2 : acc.length ≤ 200000 := by omega
          have LO := Lib.hid (show w.heap.size ≤ w1.heap.size ∧ w1.heap.size ≤ w2.heap.size from ⟨Nat.le_trans EH.out.st.size SZ.out.1, SZ.out.2⟩)
          go_wp2_with (at_builtin; go_must (refine wpList_pushT rfl _ _ rfl w.heap.size (.slice p acc.length c) acc rfl L2.out t p2 c2 w1.heap.size rfl LO.out.1 LO.out.2 (fun g hg => Nat.lt_of_lt_of_le (VL.out g hg).2 SZ.out.1) R2.out al2 ?_))
          intro g cap w3 hl3 hs3
          have L3 := Lib.hid hl3
          have S3 := Lib.hid hs3
          clear hl3 hs3
          go_wp2_with fail
          have P3 := Lib.hid (P2.out.aside S3.out (fun hpb => by have h1 := (VL.out pb hpb).1; have h2 := HPL.out; omega))
          go_roundw
          case rel => exact ⟨acc ++ [t], fu', j', ⟨L3.out, by have := GT.out; have := JG.out; rw [List.length_append]; simp; omega, GT.out.2, by have := GT.out; have := JG.out; have := FL.out; rw [xo_n] at *; omega, EQ7.out, P3.out, Step.aside (EH.out.st.trans ST.out) S3.out (fun g hg => (VL.out g hg).1)⟩⟩
          case measure => rw [posOf_eq P3.out, LN.out]; have := GT.out; have := JG.out; rw [xo_n] at *; omega
        | err j' c' =>
          have EQ6 := EQ5.out
          rw [hex] at EQ6
          dsimp only at EQ6
          rw [hex] at EX
          unfold EXP at EX
          dsimp only at EX
          subst EQ6
          clear EQ5 hex
          go_wp2_with fail
          refine SKC.out.mono ?_
          rintro e w1 ⟨rfl, hp1, hs1⟩
          have P1 := Lib.hid hp1
          have S1 := Lib.hid hs1
          have c0 := hp1.c0
          have c1 := hp1.c1
          have EX2 := Lib.hid (fun q1 => EX.out (w1.drewN q1) (hp1.drewN q1))
          clear hp1 hs1 SKC EX
          go_wp2_with fail
          go_quiet (fail)
          go_wp2_with fail
          refine (EX2.out _).mono ?_
          rintro e w2 ⟨rfl, hs2⟩
          unfold pan
          go_wp2_with fail
          exact ⟨rfl, rfl, EH.out.st.trans (S1.out.trans ((step_drewN (w := w1) (F := oneF pb) nq).trans hs2))⟩
    · have hjd : decide (j < s.size) = false := by simpa using hjn
      have EQ4 := EQ3.out
      rw [if_neg hjn] at EQ4
      subst EQ4
      clear EQ3 hjn
      unfold SKP at SKC
      rw [hjd] at SKC
      go_wp2_with fail
      refine SKC.out.mono ?_
      rintro e w1 ⟨rfl, hp1, hs1⟩
      have P1 := Lib.hid hp1
      have S1 := Lib.hid hs1
      have c0 := hp1.c0
      clear hp1 hs1 SKC
      go_wp2_with fail
      exact ⟨rfl, rfl, EH.out.st.trans S1.out⟩
end Go.Proofs.Ytgiheheakgigkaa
