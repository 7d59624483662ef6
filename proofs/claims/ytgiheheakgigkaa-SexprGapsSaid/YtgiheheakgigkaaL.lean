/- The reference: one s-expression; a list. -/
import Derived.Test.YtgiheheakgigkaaK
namespace Go.Proofs.Ytgiheheakgigkaa
open Go.RowKit
set_option linter.unusedVariables false
set_option linter.unusedSimpArgs false
theorem elF_c {x : X} {ex : Nat → R T} (h : ∀ i j c, ex i = .err j c → c ≠ 0) : ∀ k acc i j c, elF x ex k acc i = .err j c → c ≠ 0
  | 0, acc, i, j, c, q => by cases q; omega
  | k + 1, acc, i, j, c, q => by
    unfold elF at q
    split at q
    · split at q
      · cases q
      · split at q
        · exact elF_c h k _ _ _ _ q
        · rename_i j' c' he
          cases q
          exact h _ _ _ he
    · cases q; omega
theorem exR_c {x : X} : ∀ k i j c, exR x k i = .err j c → c ≠ 0
  | 0, i, j, c, q => by unfold exR at q; split at q <;> cases q <;> omega
  | k + 1, i, j, c, q => by
    unfold exR at q
    split at q
    · cases q; omega
    · split at q
      · cases q
      · split at q
        · cases q
        · rename_i j' c' he
          cases q
          exact elF_c (fun i j c h => exR_c k i j c h) _ _ _ _ _ he
def ofEl : R (List T) → R T
  | .ok l j => .ok (.mk ⟨#[]⟩ l) j
  | .err j c => .err j c
set_option maxRecDepth 100000 in
set_option maxHeartbeats 4000000 in
theorem one32_list (s : ByteArray) (hs : s.size ≤ 100000) (k op : Nat) (hop : op < 64)
    (HE : ∀ (w : World) (i : Nat), i < s.size → Calls Try.prog 32 #[.string s, .int .i64 (i : Int), .int .i64 ((op : Int) + 1)] w (ONP w (exR (xo s) k i)))
    (w : World) (i : Nat) (hi : i < s.size) (h40 : (xo s).f i = 40) : Calls Try.prog 32 #[.string s, .int .i64 (i : Int), .int .i64 (op : Int)] w (ONP w (ofEl (elF (xo s) (exR (xo s) k) (s.size - i) [] (i + 1)))) := by
  have hx := idx9 hi
  rw [h40] at hx
  have K0 := Lib.hid (bk_alloc (BK.refl w) zc)
  have NB := Lib.hid (show (w.alloc zc).heap[w.heap.size]? = some (.cells #[.string ⟨#[]⟩, .slice none 0 0] 25 (0, 0)) from heap_alloc_new w zc)
  have hop2 : ¬ (64 : Int) ≤ (op : Int) := by omega
  have ei : IntKind.i64.wrap ((i : Int) + 1) = (i : Int) + 1 := IntWalk.i64_in _ (by omega)
  have eo : IntKind.i64.wrap ((op : Int) + 1) = (op : Int) + 1 := IntWalk.i64_in _ (by omega)
  have HEH := Lib.hid HE
  have S33 := Lib.hid (fun w j hj => skip33 w s hs j hj)
  have A33 := Lib.hid (fun w => skip33 w s hs (i + 1) (by omega))
  have SZ0 := Lib.hid (sz1 w zc)
  have E0 := Lib.hid (show OL (w.alloc zc) s (exR (xo s) k) (elF (xo s) (exR (xo s) k) (s.size - i) [] (i + 1)) (.slice none 0 0) [] (s.size - i) (i + 1) (w.alloc zc) from ⟨LV.nil _ _, Nat.zero_le _, by omega, by omega, rfl, BK.refl _⟩)
  unfold zc at K0 NB E0 SZ0
  have HI := Lib.hid hi
  clear HE h40 hop hi
  generalize elF (xo s) (exR (xo s) k) (s.size - i) [] (i + 1) = RR at *
  rw [show (((i + 1 : Nat)) : Int) = (i : Int) + 1 by omega] at A33
  go_enter Try.func32, Try.ntmps32
  go_wp2_with fail
  refine (A33.out _).mono ?_
  rintro e w' ⟨rfl, rfl⟩
  go_wp2_with fail
  go_loopw [1, 10] (fun a v wr => ∃ acc fu i, a = .int .i64 ((sk (xo s) false i : Nat) : Int) ∧ OL (w.alloc (.cells #[.string ⟨#[]⟩, .slice none 0 0] 25)) s (exR (xo s) k) RR v acc fu i wr) (fun a _ _ => s.size + 1 - (intOf a).toNat)
  case atStart => exact ⟨_, _, _, rfl, E0.out⟩
  case round =>
    obtain ⟨acc, fu, i', rfl, hel⟩ := hrel
    have EH := Lib.hid hel
    obtain ⟨p, c, hv⟩ := hel.lv.shape
    subst hv
    have hal := hel.al
    have hil := hel.il
    have EQ := Lib.hid hel.eq
    obtain ⟨fu', rfl⟩ : ∃ f, fu = f + 1 := ⟨fu - 1, by have := hel.fl; omega⟩
    have FL := Lib.hid hel.fl
    have HB := Lib.hid (show wr.heap[w.heap.size]? = some (.cells #[.string ⟨#[]⟩, .slice none 0 0] 25 (0, 0)) from (bk_block hel.bk (by rw [SZ0.out]; omega)).trans NB.out)
    have K1 := Lib.hid (bk_tr K0.out hel.bk)
    have WS := Lib.hid (show w.heap.size + 1 ≤ wr.heap.size from by have := bk_size hel.bk; rw [SZ0.out] at this; omega)
    clear hel
    have JG := Lib.hid (sk_ge (xo s) false i')
    have JL := Lib.hid (sk_le (xo s) false (i := i') hil)
    have EQ2 := EQ.out
    unfold elF at EQ2
    rw [xo_n] at EQ2 JL
    generalize hj : sk (xo s) false i' = j at *
    have EQ3 := Lib.hid EQ2
    have x0 := cell_of_row wr w.heap.size 0 _ 25 (0, 0) HB.out
    have x1 := cell_of_row wr w.heap.size 1 _ 25 (0, 0) HB.out
    have y0 := frozen_of_row wr w.heap.size 0 _ 25 HB.out
    have y1 := frozen_of_row wr w.heap.size 1 _ 25 HB.out
    clear EQ2 hj EQ
    by_cases hjn : j < s.size
    · have hjd : decide (j < s.size) = true := by simpa using hjn
      have hxj := idx9 hjn
      have EQ4 := EQ3.out
      rw [if_pos hjn] at EQ4
      have HJN := Lib.hid hjn
      have EX := Lib.hid (fun w' => HEH.out w' j HJN.out)
      generalize (xo s).f j = ch at *
      by_cases h41 : ch = 41
      · subst h41
        rw [if_pos rfl] at EQ4
        subst EQ4
        have ej : IntKind.i64.wrap ((j : Int) + 1) = (j : Int) + 1 := IntWalk.i64_in _ (by omega)
        have hne : ((j : Int) == (s.size : Int)) = false := ne_cast (by omega)
        have SS := Lib.hid (show Step wr ((wr.setCell ⟨w.heap.size, 0, none⟩ (.string ⟨#[]⟩)).setCell ⟨w.heap.size, 1, none⟩ (.slice p acc.length c)) (oneF w.heap.size) (oneF w.heap.size) from (step_set 0 _).trans (step_set 1 _))
        clear EQ3 hjn
        go_wp2_with fail
        exact bodyPost_ret (v := .tuple #[.agg #[.string ⟨#[]⟩, .slice p acc.length c], .int .i64 ((j : Int) + 1), .int .i64 0]) (results_ctt Try.results32 _ _ w.heap.size 25 #[.string ⟨#[]⟩, .slice p acc.length c] (0, 0) _ rfl (res_set HB.out rfl _ _) Try.underlying25 rfl (by kernel_rfl) rfl rfl) rfl
          ⟨⟨p, c, rfl, EH.out.lv.row.step SS.out (fun g hg e => by rw [SZ0.out] at hg; unfold oneF at e; omega) (by rw [SZ0.out]; omega)⟩, bk_set (bk_set K1.out _ _ (Nat.le_refl _)) _ _ (Nat.le_refl _)⟩
      · have q41 : ((ch : Int) != 41) = true := nn_cast h41
        rw [if_neg h41] at EQ4
        have EQ5 := Lib.hid EQ4
        clear EQ4 EQ3 hjn h41
        cases hex : exR (xo s) k j with
        | ok t j' =>
          have EQ6 := EQ5.out
          rw [hex] at EQ6
          dsimp only at EQ6
          have GT := Lib.hid (exR_gt k j t j' HJN.out hex)
          rw [hex] at EX
          unfold ONP at EX
          dsimp only at EX
          have EQ7 := Lib.hid EQ6
          have C33 := Lib.hid (fun w => S33.out w j' GT.out.2)
          clear EQ6 EQ5 hex
          go_wp2_with fail
          refine (EX.out _).mono ?_
          rintro e w2 ⟨⟨p2, c2, rfl, hr2⟩, hb2⟩
          have K2 := Lib.hid (bk_tr K1.out hb2)
          have KK := Lib.hid hb2
          have R2 := Lib.hid hr2
          have SZ := Lib.hid (show wr.heap.size ≤ w2.heap.size from bk_size hb2)
          have L2 := Lib.hid (EH.out.lv.bk hb2)
          have VL := Lib.hid EH.out.lv.vlt
          have al2 : acc.length ≤ 200000 := by omega
          have X3 := Lib.hid (bk_alloc (BK.refl w2) (.cells #[.string t.a, .slice p2 t.ts.length c2] 25))
          clear x0 x1 y0 y1 hb2 hr2 EX

          go_wp2_with (at_builtin; go_must (refine wpList_pushT rfl _ _ rfl (w.alloc (.cells #[.string ⟨#[]⟩, .slice none 0 0] 25)).heap.size (.slice p acc.length c) acc rfl (L2.out.bk X3.out) t p2 c2 wr.heap.size (by rw [sz1 w2]; rfl) (by rw [SZ0.out]; exact WS.out) (Nat.le_trans SZ.out (bk_size X3.out)) (fun g hg => (VL.out g hg).2) (R2.out.bk X3.out (Nat.le_refl _)) al2 ?_))
          intro g cap w3 hl3 hs3
          have L3 := Lib.hid hl3
          have S3 := Lib.hid hs3
          clear hl3 hs3
          go_wp2_with fail
          refine (C33.out _).mono ?_
          rintro e w' ⟨rfl, rfl⟩
          go_wp2_with fail
          go_roundw
          case rel => exact ⟨acc ++ [t], fu', j', rfl, ⟨by rw [SZ0.out]; exact L3.out, by have := GT.out; have := JG.out; rw [List.length_append]; simp; omega, GT.out.2, by have := GT.out; have := JG.out; have := FL.out; rw [xo_n] at *; omega, EQ7.out, bk_step (bk_tr (bk_tr EH.out.bk KK.out) X3.out) S3.out (fun g hg => (VL.out g hg).1)⟩⟩
          case measure => have := GT.out; have := sk_ge (xo s) false j'; have := JG.out; simp only [intOf, xo_n] at *; omega
        | err j' c' =>
          have EQ6 := EQ5.out
          rw [hex] at EQ6
          dsimp only at EQ6
          have NC := exR_c k j j' c' hex
          have qc : ((c' : Int) != 0) = true := nn_cast NC
          rw [hex] at EX
          unfold ONP at EX
          dsimp only at EX
          subst EQ6
          clear EQ5 hex NC
          go_wp2_with fail
          refine (EX.out _).mono ?_
          rintro e w2 ⟨rfl, hb2⟩
          have K2 := Lib.hid (bk_tr K1.out hb2)
          have B2 := Lib.hid ((bk_block hb2 (by have := WS.out; omega)).trans HB.out)
          have L2 := Lib.hid (show w.heap.size + 1 ≤ w2.heap.size from Nat.le_trans WS.out (bk_size hb2))
          have B3 := Lib.hid ((bk_block (bk_alloc (BK.refl w2) zc) (by have := L2.out; omega)).trans B2.out)
          unfold zc at B3
          clear x0 x1 y0 y1 hb2
          have x0 := cell_of_row _ w.heap.size 0 _ 25 (0, 0) B3.out
          have x1 := cell_of_row _ w.heap.size 1 _ 25 (0, 0) B3.out
          have y0 := frozen_of_row _ w.heap.size 0 _ 25 B3.out
          have y1 := frozen_of_row _ w.heap.size 1 _ 25 B3.out
          go_wp2_with fail
          exact bodyPost_ret (v := .tuple #[.agg #[.string ⟨#[]⟩, .slice none 0 0], .int .i64 (j' : Int), .int .i64 (c' : Int)]) (results_ctt Try.results32 _ _ w.heap.size 25 #[.string ⟨#[]⟩, .slice none 0 0] (0, 0) _ rfl (res_set B3.out rfl _ _) Try.underlying25 rfl (by kernel_rfl) rfl rfl) rfl
            ⟨rfl, bk_set (bk_set (bk_alloc K2.out _) _ _ (Nat.le_refl _)) _ _ (Nat.le_refl _)⟩
    · have hjd : decide (j < s.size) = false := by simpa using hjn
      obtain rfl : j = s.size := by have := JL.out; omega
      have EQ4 := EQ3.out
      rw [if_neg hjn] at EQ4
      subst EQ4
      clear EQ3 hjn
      go_wp2_with fail
      exact bodyPost_ret (v := .tuple #[.agg #[.string ⟨#[]⟩, .slice none 0 0], .int .i64 (s.size : Int), .int .i64 6]) (results_ctt Try.results32 _ _ w.heap.size 25 #[.string ⟨#[]⟩, .slice none 0 0] (0, 0) _ rfl (res_set HB.out rfl _ _) Try.underlying25 rfl (by kernel_rfl) rfl rfl) rfl
        ⟨rfl, bk_set (bk_set K1.out _ _ (Nat.le_refl _)) _ _ (Nat.le_refl _)⟩
end Go.Proofs.Ytgiheheakgigkaa
