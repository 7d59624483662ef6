/- The law of owned memory, walked. -/
import Derived.Test.YtclefcjojlkcnaaDoorAW
namespace Go.Proofs.YtclefcjojlkcnaaDoor.V
open Go.RowKit Go.Maps
open Go.Proofs.YtclefcjojlkcnaaDoor.G (RowA Step mem dom cN Cs EP Mono memO GL gl_push RowM RowI AtD one_cN info26 cell_at bk_frozen bk_block RT)
set_option linter.unusedVariables false
set_option linter.unusedSimpArgs false
theorem AL.lt3 {S : Nat → Prop} {B tb mb rb c : Nat} {w0 w : World} {ms : List Nn} {ids : List Int} (h : AL S B tb mb rb c w0 w ms ids) : tb < w.heap.size := by
  obtain ⟨⟨⟨D, h1, h2⟩, _⟩, _⟩ := h
  exact h1.lt
theorem b5_step {w w' : World} {F F' : Nat → Prop} {b : Nat} {x0 x1 x2 x3 x4 : Value} (h : B5 w b x0 x1 x2 x3 x4) (s : Step w w' F F') (hb : ¬ F b) : B5 w' b x0 x1 x2 x3 x4 := by
  obtain ⟨a0, a1, a2, a3, a4⟩ := h
  have e := s.block b (World.block_lt_of_cell? w _ a0) hb
  exact ⟨(cell_at e).trans a0, (cell_at e).trans a1, (cell_at e).trans a2, (cell_at e).trans a3, (cell_at e).trans a4⟩
theorem ints_set (ys : List Int) (j : Nat) (z : Int) : ints (ys.set j z) = (ints ys).set j (.int .i64 z) := by unfold ints; rw [List.map_set]
theorem AL.inc {S : Nat → Prop} {B tb mb rb c : Nat} {w0 w : World} {ms : List Nn} {ids : List Int} (h : AL S B tb mb rb c w0 w ms ids) : Inc ms := by
  obtain ⟨⟨⟨D, h1, h2⟩, _⟩, _⟩ := h
  exact h2.inc
theorem AL.okn {S : Nat → Prop} {B tb mb rb c : Nat} {w0 w : World} {ms : List Nn} {ids : List Int} (h : AL S B tb mb rb c w0 w ms ids) : ∀ m ∈ ms, OKN m := by
  obtain ⟨⟨⟨D, h1, h2⟩, _⟩, _⟩ := h
  exact h2.ok
theorem law33o {S : Nat → Prop} {B tb mb rb c : Nat} {w0 : World} {ms : List Nn} {ids : List Int} (hl : ms.length ≤ 1000) (w : World) (h : AL S B tb mb rb c w0 w ms ids) : Calls Tryd.prog 33 #[.pointer (some ⟨tb, 0, none⟩)] w fun e w' => ∃ q cap, e = .returned (.slice q ms.length cap) ∧ RowO w.heap.size w' q ms ∧ BK w w' := by
  obtain ⟨⟨⟨D, h1, h2⟩, _⟩, _⟩ := h
  exact (nodes33o S B tb mb c D ms ids w h1 h2 hl).mono fun e w' ⟨q, cap, a, _, b, c⟩ => ⟨q, cap, a, b, c⟩
def OutQ (lo : Nat) (q : Option Addr) (N : Nat) (w : World) : Prop := 0 < N → ∃ g, q = some ⟨g, 0, none⟩ ∧ OutN lo g w N ∧ fresh lo w g
theorem outQ_of {lo : Nat} {w : World} {q : Option Addr} {ms : List Nn} (h : RowO lo w q ms) (hok : ∀ m ∈ ms, m.zs.length ≤ 1000) : OutQ lo q ms.length w := fun h0 => by
  obtain ⟨g, rfl, h1, _⟩ := id h h0
  exact ⟨g, rfl, OutN.of h hok, h1⟩
theorem own_nil {w : World} {lo n : Nat} {q : Option Addr} {d : Nat} {xs : List Value} (o : w.ownsRow lo 3 1 (.slice q n d) n xs) : q = none → d = 0 := by
  rintro rfl
  rcases o.2 with ⟨hv, _⟩ | ⟨g, cap, cur, hv, _⟩
  · exact (Value.slice.inj hv).2.2
  · cases hv
theorem AtV.keep {m : Nn} {w w' : World} {b o : Nat} (h : AtV m w b o) (hb : BK w w') : AtV m w' b o := by
  obtain ⟨q, d, ⟨h0, h1, h2, h3, h4⟩, hr, hn, hv⟩ := h
  exact ⟨q, d, ⟨cell_bk h0 hb, cell_bk h1 hb, cell_bk h2 hb, cell_bk h3 hb, cell_bk h4 hb⟩, hr.keep hb, hn, hv⟩
set_option maxRecDepth 100000 in
set_option maxHeartbeats 4000000 in
theorem owns_law (ns : List Nn) (w : World) (ht : Tb w) (p : Option Addr) (c : Nat) (hp : RowV w p ns) : Calls Tryd.prog 9 #[.slice p ns.length c] w fun e w' => e = .returned (.bool true) ∧ BK w w' := by
  have HT := Lib.hid ht
  have HP := Lib.hid hp
  clear ht hp
  by_cases hl : (20 : Int) < (ns.length : Int)
  · have LV := Lib.hid (live_any w HT.out)
    go_enter Tryd.func9, Tryd.ntmps9
    go_wp2_with fail
    refine LV.out.mono ?_
    rintro e w1 ⟨rfl, hb1⟩
    have H1 := Lib.hid hb1
    clear hb1
    go_wp2_with fail
    go_ret
    exact ⟨rfl, H1.out⟩
  · have HL := Lib.hid hl
    have hd0 : decide ((20 : Int) < (ns.length : Int)) = false := decide_eq_false hl
    have NW := Lib.hid (new_any w.heap.size w (Nat.le_refl _))
    go_enter Tryd.func9, Tryd.ntmps9
    go_wp2_with fail
    refine NW.out.mono ?_
    rintro e w1 ⟨rfl, hT1, hb1⟩
    have ST := Lib.hid (start_al w w1 w.heap.size (w.heap.size + 1) w.heap.size hT1 rfl hb1 (by omega))
    clear hT1 hb1 hd0 hl
    generalize hS : (fun b => b ≠ w.heap.size ∧ b ≠ w1.heap.size) = S at ST
    clear hS
    go_wp2_with fail
    generalize w1.alloc (.cells #[.slice none 0 0, .slice none 0 0] 45) = w2 at *
    generalize w1.heap.size = rb at *
    have SP := Lib.hid ST.out.1
    generalize hmb : w.heap.size = mb at *
    generalize htb : mb + 1 = tb at *
    have HMB := Lib.hid hmb
    clear htb hmb
    go_loopw [5] (fun iv wr => ∃ (k : Nat) (ms : List Nn) (ids : List Int), k ≤ ns.length ∧ iv = .int .i64 (k : Int) ∧ ms.length ≤ k ∧ AL S mb tb mb rb k w wr ms ids) (fun iv _ => ns.length - (intOf iv).toNat)
    case atStart => exact ⟨0, [], [], Nat.zero_le _, rfl, Nat.le_refl _, ST.out.2⟩
    case round =>
      obtain ⟨k, ms, ids, hk, rfl, hm, hal⟩ := hrel
      have A0 := Lib.hid hal
      have HM := Lib.hid hm
      clear hal hm
      by_cases hlt : k < ns.length
      · have hki : (k : Int) < (ns.length : Int) := by omega
        have hd : decide (k < ns.length) = true := by simpa using hlt
        have ei : IntKind.i64.wrap ((k : Int) + 1) = (k : Int) + 1 := by have := HL.out; exact IntWalk.i64_in _ (by omega)
        have EI := Lib.hid ei
        have HLT := Lib.hid hlt
        obtain ⟨b, o, rfl, hbl, hall⟩ := HP.out (by omega)
        obtain ⟨q, d, ⟨x0, x1, x2, x3, x4⟩, hra0, hq0, hv⟩ := hall k hlt
        have y0 := cell_bk x0 A0.out.2
        have y1 := cell_bk x1 A0.out.2
        have y2 := cell_bk x2 A0.out.2
        have y3 := cell_bk x3 A0.out.2
        have y4 := cell_bk x4 A0.out.2
        clear x0 x1 x2 x3 x4 hall hbl
        generalize ns[k] = n at *
        have R0 := Lib.hid hra0
        have Q0 := Lib.hid hq0
        have V0 := Lib.hid hv
        clear hra0 hq0 hv
        go_wp2_with fail
        refine (few20 n.op n.wd n.vl n.nm q n.zs.length d wr).mono ?_
        rintro e w4 ⟨rfl, hb4⟩
        have A4 := Lib.hid (A0.out.bk hb4)
        have y0 := cell_bk y0 hb4
        have y1 := cell_bk y1 hb4
        have y2 := cell_bk y2 hb4
        have y3 := cell_bk y3 hb4
        have y4 := cell_bk y4 hb4
        clear hb4
        cases hf : few20B n.zs.length n.nm with
        | false =>
          have LV := Lib.hid (live_any w4 (HT.out.keep A4.out.2))
          clear hf
          go_wp2_with fail
          refine LV.out.mono ?_
          rintro e w9 ⟨rfl, hb9⟩
          have H9 := Lib.hid hb9
          clear hb9
          go_wp2_with fail
          go_ret
          exact ⟨rfl, bk_tr A4.out.2 H9.out⟩
        | true =>
          have OK := Lib.hid (few20_ok hf V0.out).1
          have ML := Lib.hid (show ms.length ≤ 1000 from by have := HL.out; have := HM.out; omega)
          have CK := Lib.hid (show k < maxLen from by have := HL.out; have := HLT.out; unfold maxLen; omega)
          have AO := Lib.hid A4.out.ok
          clear hf
          have CP := Lib.hid (refcopy_any n.op n.wd n.vl n.nm q d n.zs w4 (R0.out.keep A4.out.2) OK.out.l Q0.out)
          go_wp2_with fail
          refine CP.out.mono ?_
          rintro e w5 ⟨q1, d1, rfl, ho5, hb5⟩
          have W45 := Lib.hid (bk_size hb5)
          have O5 := Lib.hid ho5
          have A5 := Lib.hid (A4.out.bk hb5)
          have K45 := Lib.hid hb5
          clear ho5 hb5 y0 y1 y2 y3 y4
          have KA := Lib.hid (bk_alloc (BK.refl w5) (.cells #[.int .i64 n.op, .int .i64 n.wd, .int .u64 n.vl, .string n.nm, .slice q1 n.zs.length d1] 26))
          have BX := Lib.hid (b5_new w5 (.int .i64 n.op) (.int .i64 n.wd) (.int .u64 n.vl) (.string n.nm) (.slice q1 n.zs.length d1) 26)
          have OA := Lib.hid (own_below O5.out KA.out)
          have A6 := Lib.hid (A5.out.bk KA.out)
          have K46 := Lib.hid (bk_tr K45.out KA.out)
          have LT6 := Lib.hid (show w5.heap.size < (w5.alloc (.cells #[.int .i64 n.op, .int .i64 n.wd, .int .u64 n.vl, .string n.nm, .slice q1 n.zs.length d1] 26)).heap.size from by simp)
          have GB := Lib.hid (show w5.heap.size ≠ mb ∧ w5.heap.size ≠ rb from by have := A5.out.lt; omega)
          have GBW := Lib.hid (show w4.heap.size ≤ w5.heap.size from W45.out)
          have QLT := Lib.hid (show ∀ g o, q1 = some ⟨g, o, none⟩ → w4.heap.size ≤ g ∧ g < w5.heap.size from fun g o e => O5.out.lt g (by rw [e]; rfl))
          have NQ := Lib.hid (show q1 = none → d1 = 0 from own_nil O5.out)
          go_wp2_with fail
          generalize w5.alloc (.cells #[.int .i64 n.op, .int .i64 n.wd, .int .u64 n.vl, .string n.nm, .slice q1 n.zs.length d1] 26) = w6 at *
          generalize w5.heap.size = gb at *
          clear KA O5 A5
          -- the own row lies at or above w4's end; the tables' rows below it
          obtain ⟨lo, hlo⟩ : ∃ x, x = w4.heap.size := ⟨_, rfl⟩
          rw [← hlo] at OA GBW QLT
          have S1 := Lib.hid (show Sp (fun x => S x ∧ (x < lo ∨ w6.heap.size ≤ x)) mb tb mb rb w from SP.out.sp (fun b hb => hb.1))
          have H4 := Lib.hid hlo
          have A4S := Lib.hid (A4.out.weaken (S' := fun x => S x ∧ (x < lo ∨ w6.heap.size ≤ x)) (fun b hb hl => ⟨hb, .inl (by rw [H4.out]; exact hl)⟩) (fun e => ((SP.out.s rb).1 e.1).2 rfl))
          have NEW := Lib.hid (A6.out.new SP.out)
          have A6S := Lib.hid (A4S.out.bk K46.out)
          have MBL := Lib.hid (show (mb < lo ∧ rb < lo) ∧ tb < lo from by rw [H4.out]; exact ⟨A4.out.lt, A4.out.lt3⟩)
          generalize hS1 : (fun x => S x ∧ (x < lo ∨ w6.heap.size ≤ x)) = S1' at *
          have HS1 := Lib.hid (fun x => show S1' x ↔ (S x ∧ (x < lo ∨ w6.heap.size ≤ x)) from by rw [← hS1])
          clear hS1 A4S hlo
          obtain ⟨x0, x1, x2, x3, x4⟩ := BX.out
          go_wp2_with fail
          refine (own25 (id := (k : Int)) S1.out OK.out HT.out CK.out w6 (Ra.own OA.out) (fun b hb => (HS1.out b).2 ⟨NEW.out b hb, .inr hb⟩) A6S.out).mono ?_
          rintro e w7 ⟨rfl, hp7, st7⟩
          have P7 := Lib.hid hp7
          have Z7 := Lib.hid st7.size
          have B7 := Lib.hid (b5_step BX.out st7 GB.out.1)
          have O7 := Lib.hid (G.own_at OA.out (fun j hj => st7.block j (OA.out.lt j hj).2 (fun e => by have := (OA.out.lt j hj).1; have := MBL.out.1.1; omega)))
          clear hp7 st7 x0 x1 x2 x3 x4 A6S
          obtain ⟨x0, x1, x2, x3, x4⟩ := B7.out
          go_wp2_with fail
          refine (own26 (id := (k : Int)) S1.out OK.out NQ.out ML.out AO.out w7 (Ra.own O7.out) (fun b hb => (HS1.out b).2 ⟨NEW.out b (Nat.le_trans Z7.out hb), .inr (Nat.le_trans Z7.out hb)⟩) P7.out).mono ?_
          rintro e w8 ⟨rfl, hp8, st8⟩
          have A8 := Lib.hid hp8
          have B8 := Lib.hid (b5_step B7.out st8 GB.out.2).2.2.2.2
          have O8 := Lib.hid (G.own_at O7.out (fun j hj => st8.block j (O7.out.lt j hj).2 (fun e => by have := (O7.out.lt j hj).1; have := MBL.out.1.2; omega)))
          have M8 := Lib.hid (show (insI n ms).length ≤ k + 1 from by have := insI_len n ms; have := HM.out; omega)
          clear hp8 st8 x0 x1 x2 x3 x4 B7 P7 O7
          generalize insI n ms = ms9 at *
          generalize insJ n (k : Int) ms ids = ids9 at *
          have ei := EI.out
          go_wp2_with fail
          obtain ⟨wa, hwa⟩ : ∃ x, x = wr := ⟨_, rfl⟩
          subst hwa
          go_loopw [7] (fun jv wr => ∃ (j : Nat) (ys : List Int), j ≤ n.zs.length ∧ jv = .int .i64 (j : Int) ∧ ys.length = n.zs.length ∧ wr.ownsRow lo 3 1 (.slice q1 n.zs.length d1) n.zs.length (ints ys) ∧ wr.cell? ⟨gb, 4, none⟩ = some (.slice q1 n.zs.length d1) ∧ AL S1' mb tb mb rb (k + 1) w wr ms9 ids9) (fun jv _ => n.zs.length - (intOf jv).toNat)
          case atStart => exact ⟨0, n.zs, Nat.zero_le _, rfl, rfl, O8.out, B8.out, A8.out⟩
          case round =>
            obtain ⟨j, ys, hj, rfl, hyl, hown, hc4, hal⟩ := hrel
            have OW := Lib.hid hown
            have AW := Lib.hid hal
            have YL := Lib.hid hyl
            have C4 := Lib.hid hc4
            clear hown hal hyl
            by_cases hjl : j < n.zs.length
            · have hji : (j : Int) < (n.zs.length : Int) := by omega
              have hdj : decide (j < n.zs.length) = true := by simpa using hjl
              have ej : IntKind.i64.wrap ((j : Int) + 1) = (j : Int) + 1 := by have := OK.out.l; exact IntWalk.i64_in _ (by omega)
              obtain ⟨g, hg, hg1, hg2⟩ := own_row OW.out (by omega)
              subst hg
              have hcell : wr.cell? ⟨g, j, none⟩ = some (.int .i64 (ys.getD j 0)) := by
                have := OW.out.cellAt (g := g) (cap := d1) j (by omega)
                rw [this]
                simp [ints, List.getD_eq_getElem?_getD, show j < ys.length by rw [YL.out]; exact hjl]
              have hfz := OW.out.frozenAt (g := g) (cap := d1) j
              generalize ys.getD j 0 = y at *
              have JL := Lib.hid hjl
              have GB3 := Lib.hid (QLT.out g 0 rfl)
              have GL2 := Lib.hid (show gb ≠ g from by have := GB3.out; omega)
              have GS := Lib.hid (show ¬ S1' g from fun e => by
                have h1 := GB3.out
                have h2 := LT6.out
                rcases ((HS1.out g).1 e).2 with h | h <;> omega)
              have GM := Lib.hid (show g ≠ mb ∧ g ≠ rb ∧ g ≠ tb ∧ w.heap.size ≤ g from by
                have h1 := MBL.out
                have h2 := HMB.out
                have h3 := GB3.out
                omega)
              clear hjl
              go_wp2_with fail
              go_roundw
              case rel => exact ⟨j + 1, ys.set j (wrap64 (y - 1)), JL.out, by go_num, by rw [List.length_set]; exact YL.out, by rw [ints_set]; exact (OW.out.stored j _).1, (World.cell?_setCell_other _ _ _ _ (fun e => GL2.out (by injection e with h1; exact h1.symm))).trans C4.out, AW.out.step (step_set _ g j _) (fun b hb e => GS.out (by rw [← e]; exact hb)) (fun e => GM.out.2.2.1 e.symm) (fun e => GM.out.1 e.symm) (fun e => GM.out.2.1 e.symm) (fun b hb => by rw [hb]; exact GM.out.2.2.2)⟩
              case measure => have := JL.out; simp [intOf]; omega
            · have hdj : decide (j < n.zs.length) = false := by simpa using hjl
              have hnj : ¬ (j : Int) < (n.zs.length : Int) := by omega
              clear hjl
              go_wp2_with fail
              go_roundw
              case rel => exact ⟨k + 1, ms9, ids9, HLT.out, by go_num, M8.out, AW.out.weaken (fun b hb _ => ((HS1.out b).1 hb).1) (fun e => ((SP.out.s rb).1 e).2 rfl)⟩
              case measure => have := HLT.out; simp [intOf]; omega
      · have hkn : k = ns.length := by omega
        have hd : decide (k < ns.length) = false := by simpa using hlt
        have hni : ¬ (k : Int) < (ns.length : Int) := by omega
        clear hlt hk
        have ML := Lib.hid (show ms.length ≤ 1000 from by have := HL.out; have := HM.out; omega)
        have N33 := Lib.hid (law33o ML.out wr A0.out)
        obtain ⟨lo, hlo⟩ : ∃ x, x = wr.heap.size := ⟨_, rfl⟩
        have H4 := Lib.hid hlo
        have A0S := Lib.hid (A0.out.weaken (S' := fun x => S x ∧ x < lo) (fun b hb hl => ⟨hb, by rw [H4.out]; exact hl⟩) (fun e => ((SP.out.s rb).1 e.1).2 rfl))
        have MBL := Lib.hid (show (mb < lo ∧ rb < lo) ∧ tb < lo from by rw [H4.out]; exact ⟨A0.out.lt, A0.out.lt3⟩)
        have AOK := Lib.hid A0.out.ok
        have AINC := Lib.hid A0.out.inc
        have AOKN := Lib.hid A0.out.okn
        generalize hS1 : (fun x => S x ∧ x < lo) = S2 at *
        have HS2 := Lib.hid (fun x => show S2 x ↔ (S x ∧ x < lo) from by rw [← hS1])
        clear hS1 hlo
        go_wp2_with fail
        refine N33.out.mono ?_
        rintro e w9 ⟨q8, cap8, rfl, hro, hb9⟩
        rw [← H4.out] at hro
        have A9 := Lib.hid (A0S.out.bk hb9)
        have RO := Lib.hid (outQ_of hro AOK.out.2)
        clear hro hb9 A0S N33
        obtain ⟨p9, cp9, p9', cp9', ⟨t0, t1⟩, -⟩ := A9.out.1.2
        have T0 := Lib.hid t0
        clear t1
        go_wp2_with fail
        obtain ⟨wa, hwa⟩ : ∃ x, x = wr := ⟨_, rfl⟩
        subst hwa
        clear t0
        go_loopw [9] (fun iv wr => ∃ i : Nat, i ≤ ms.length ∧ iv = .int .i64 (i : Int) ∧ OutQ lo q8 ms.length wr ∧ AL S2 mb tb mb rb k w wr ms ids) (fun iv _ => ms.length - (intOf iv).toNat)
        case atStart => exact ⟨0, Nat.zero_le _, rfl, RO.out, A9.out⟩
        case round =>
          obtain ⟨i, hi, rfl, hout, hal⟩ := hrel
          have OU := Lib.hid hout
          have A3 := Lib.hid hal
          clear hout hal
          by_cases hil : i < ms.length
          · have hii : (i : Int) < (ms.length : Int) := by omega
            have hdi : decide (i < ms.length) = true := by simpa using hil
            have ei : IntKind.i64.wrap ((i : Int) + 1) = (i : Int) + 1 := by have := ML.out; exact IntWalk.i64_in _ (by omega)
            obtain ⟨g, hq8, ho3, hf3⟩ := OU.out (by omega)
            have OO := Lib.hid ho3
            have FF := Lib.hid hf3
            have IL := Lib.hid hil
            have EI := Lib.hid ei
            have FAR := Lib.hid (show ∀ b, lo ≤ b → (∀ x, S2 x → ¬ x = b) ∧ ¬ tb = b ∧ ¬ mb = b ∧ ¬ rb = b ∧ w.heap.size ≤ b from fun b hb => ⟨fun x hx e => by have := ((HS2.out x).1 hx).2; omega, by have := MBL.out; omega, by have := MBL.out; omega, by have := MBL.out; omega, by have := MBL.out; have := HMB.out; omega⟩)
            clear ho3 hf3 ei hil
            subst hq8
            go_wp2_with fail
            obtain ⟨wb, hwb⟩ : ∃ x, x = wr := ⟨_, rfl⟩
            subst hwb
            go_loopw [10] (fun jv wr => ∃ j : Nat, j ≤ 1000 ∧ jv = .int .i64 (j : Int) ∧ (OutN lo g wr ms.length ∧ fresh lo wr g) ∧ AL S2 mb tb mb rb k w wr ms ids) (fun jv _ => 1001 - (intOf jv).toNat)
            case atStart => exact ⟨0, by omega, rfl, ⟨OO.out, FF.out⟩, A3.out⟩
            case round =>
              obtain ⟨j, hj, rfl, ⟨hout, hfr⟩, hal⟩ := hrel
              have O4 := Lib.hid hout
              have F4 := Lib.hid hfr
              have A4 := Lib.hid hal
              clear hout hfr hal
              obtain ⟨op, wd, vl, nm, qa, na, da, ⟨a0, a1, a2, a3, a4⟩, hint, hna⟩ := O4.out i IL.out
              have IN := Lib.hid hint
              have NA := Lib.hid hna
              clear hint hna
              by_cases hjl : j < na
              · have hji : (j : Int) < (na : Int) := by omega
                have hdj : decide (j < na) = true := by simpa using hjl
                have ej : IntKind.i64.wrap ((j : Int) + 1) = (j : Int) + 1 := IntWalk.i64_in _ (by omega)
                obtain ⟨b5, o5, hqa, ⟨hfb, hbg⟩, hz⟩ := IN.out (by omega)
                obtain ⟨z, hzc⟩ := hz j hjl
                have hfz := hfb.2.2 (o5 + j)
                have ZC := Lib.hid hzc
                have BG := Lib.hid (And.intro hbg hfb.1)
                have JL := Lib.hid hjl
                clear hz hfb hbg hjl a0 a1 a2 a3
                subst hqa
                go_wp2_with fail
                go_roundw
                case rel => exact ⟨j + 1, by have := JL.out; have := NA.out; omega, by go_num, ⟨O4.out.arg BG.out.1 ZC.out _, fresh_set F4.out⟩, A4.out.step (step_set _ b5 (o5 + j) _) (fun x hx e => (FAR.out b5 BG.out.2).1 x hx e) (FAR.out b5 BG.out.2).2.1 (FAR.out b5 BG.out.2).2.2.1 (FAR.out b5 BG.out.2).2.2.2.1 (fun x hx => by rw [hx]; exact (FAR.out b5 BG.out.2).2.2.2.2)⟩
                case measure => have := JL.out; have := NA.out; simp [intOf]; omega
              · have hdj : decide (j < na) = false := by simpa using hjl
                have hnj : ¬ (j : Int) < (na : Int) := by omega
                have f0 := F4.out.2.2 (i * 5)
                have f1 := F4.out.2.2 (i * 5 + 1)
                have f2 := F4.out.2.2 (i * 5 + 2)
                have f3 := F4.out.2.2 (i * 5 + 3)
                have f4 := F4.out.2.2 (i * 5 + 4)
                have ei := EI.out
                clear hjl
                go_wp2_with fail
                go_roundw
                case rel => exact ⟨i + 1, IL.out, by go_num, fun _ => ⟨g, rfl, O4.out.zero IL.out, put5_fresh F4.out⟩, A4.out.step (put5_step _ g (i * 5)) (fun x hx e => (FAR.out g F4.out.1).1 x hx e) (FAR.out g F4.out.1).2.1 (FAR.out g F4.out.1).2.2.1 (FAR.out g F4.out.1).2.2.2.1 (fun x hx => by rw [hx]; exact (FAR.out g F4.out.1).2.2.2.2)⟩
                case measure => have := IL.out; simp [intOf]; omega
          · have hdi : decide (i < ms.length) = false := by simpa using hil
            have hni : ¬ (i : Int) < (ms.length : Int) := by omega
            have B3 := Lib.hid (A3.out.weaken (S' := S) (fun b hb _ => ((HS2.out b).1 hb).1) (fun e => ((SP.out.s rb).1 e).2 rfl))
            clear hil OU RO T0 hi
            go_wp2_with fail
            obtain ⟨wc, hwc⟩ : ∃ x, x = wr := ⟨_, rfl⟩
            subst hwc
            go_loopw [11] (fun iv wr => ∃ i : Nat, i ≤ ms.length ∧ iv = .int .i64 (i : Int) ∧ AL S mb tb mb rb k w wr ms ids) (fun iv _ => ms.length - (intOf iv).toNat)
            case atStart => exact ⟨0, Nat.zero_le _, rfl, B3.out⟩
            case round =>
              obtain ⟨i, hi, rfl, hal⟩ := hrel
              have A6 := Lib.hid hal
              clear hal
              obtain ⟨p6, cp6, p6', cp6', ⟨t0, t1⟩, -, -, hM6, hI6⟩ := A6.out.1.2
              by_cases hil : i < ms.length
              · have hii : (i : Int) < (ms.length : Int) := by omega
                have hdi : decide (i < ms.length) = true := by simpa using hil
                have ei : IntKind.i64.wrap ((i : Int) + 1) = (i : Int) + 1 := by have := ML.out; exact IntWalk.i64_in _ (by omega)
                have hlen := AOK.out.1
                have hid : i < ids.length := by omega
                have hidi : (i : Int) < (ids.length : Int) := by omega
                obtain ⟨b, o, hp6, hbl, hall⟩ := hM6.rowN (by omega)
                obtain ⟨q2, d2, ⟨y0, y1, y2, y3, y4⟩, hra⟩ := hall i hil
                obtain ⟨b', o', hp6', hbl', hall'⟩ := hI6.ra (by omega)
                have z0 := hall' i hid
                have ON := Lib.hid (AOKN.out _ (List.getElem_mem hil))
                have GE := Lib.hid (getI_get AINC.out hil ids)
                have IE := Lib.hid (isA_get AINC.out hil)
                have G29 := get29 S mb tb mb k ms ids ms[i] ON.out wr (HT.out.keep A6.out.2) q2 d2 hra A6.out.1.1
                rw [GE.out, IE.out] at G29
                have GG := Lib.hid G29
                have Z0 := Lib.hid z0
                have T1 := Lib.hid t1
                have IL := Lib.hid hil
                clear G29 GE IE hall hall' hbl hbl' hra z0 t1
                generalize ms[i] = m at *
                generalize ids.getD i 0 = gi at *
                subst hp6
                subst hp6'
                go_wp2_with fail
                refine GG.out.mono ?_
                rintro e w7 ⟨rfl, hb7⟩
                have A7 := Lib.hid (A6.out.bk hb7)
                have z0 := cell_bk Z0.out hb7
                have t1 := cell_bk T1.out hb7
                clear hb7 y0 y1 y2 y3 y4 t0
                go_wp2_with fail
                go_roundw
                case rel => exact ⟨i + 1, IL.out, by go_num, A7.out⟩
                case measure => have := IL.out; simp [intOf]; omega
              · have hdi : decide (i < ms.length) = false := by simpa using hil
                have hni : ¬ (i : Int) < (ms.length : Int) := by omega
                have T6 := Lib.hid t0
                have N33 := Lib.hid (fun wc (hb : BK wr wc) => (law33 ML.out wc (A6.out.bk hb)).mono (fun e w' (h : ∃ q cap, _ ∧ _ ∧ _) => (by
                  obtain ⟨q, cap, h1, h2, h3⟩ := h
                  exact ⟨q, cap, h1, RowM.rowN' h2, bk_tr hb h3⟩ : ∃ q cap, e = .returned (.slice q ms.length cap) ∧ RowN w' q ms ∧ BK wr w')))
                have S32 := Lib.hid (fun q cap wc (hb : BK wr wc) (hr : RowN wc q ms) => (same32 ms ML.out AOK.out.2 wc q p6 cap cp6 hr (hM6.rowN.keep hb)).mono (fun e w' (h : _ ∧ _) => And.intro h.1 (bk_tr hb h.2)))
                have LV := Lib.hid (fun wc (hb : BK wr wc) => (live_any wc (HT.out.keep (bk_tr A6.out.2 hb))).mono (fun e w' (h : _ ∧ _) => And.intro h.1 (bk_tr hb h.2)))
                clear hil hi t1 hM6 hI6
                go_wp2_with fail
                go_region_held3 (fun w' => w'.cell? ⟨rb, 0, none⟩ = some (.slice p6 ms.length cp6))
                  (first | exact cell_bk T6.out (by assumption) | exact cell_bk T6.out (bk_drew (BK.refl _)) | (go_keep; done))
                  ((first | (go_at_call 12; refine (LV.out _ hb10).mono ?_; rintro e w11 ⟨rfl, hb11⟩) | (go_at_call 32; refine (S32.out _ _ _ hb9 hr9).mono ?_; rintro e w10 ⟨rfl, hb10⟩) | (go_at_call 33; refine (N33.out _ (bk_drew (BK.refl _))).mono ?_; rintro e w9 ⟨q9, cap9, rfl, hr9, hb9⟩)))
                all_goals have K11 := Lib.hid (bk_tr A6.out.2 hb11)
                all_goals clear hb11 hb10 hb9 hr9 t0
                all_goals go_wp2_with fail
                all_goals go_ret
                all_goals exact ⟨rfl, K11.out⟩
end Go.Proofs.YtclefcjojlkcnaaDoor.V
