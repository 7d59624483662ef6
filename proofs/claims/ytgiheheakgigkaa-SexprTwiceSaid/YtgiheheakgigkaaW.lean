/- ParseAll: the walk. -/
import Derived.Test.YtgiheheakgigkaaV
namespace Go.Proofs.Ytgiheheakgigkaa
open Go.RowKit
set_option linter.unusedVariables false
set_option linter.unusedSimpArgs false
set_option maxRecDepth 100000 in
set_option maxHeartbeats 4000000 in
theorem parse13 (s : ByteArray) (hs : s.size ≤ 65536) (w : World) : Calls Try.prog 13 #[.string s] w (PAP w (allR (xo s))) := by
  have hi : ¬ (65536 : Int) < (s.size : Int) := by omega
  have hmf : ∀ (fn : Fn) (first cap : Array Value) (w : World), (Instr.makeFunc fn first cap).run Try.prog w = .ok (.func fn first cap) w := fun _ _ _ _ => rfl
  have E0 := Lib.hid (al_new w s)
  have SK := Lib.hid (fun w' pb i (h : PB w' pb s i) hi => skip35 w' pb s i h (by omega) hi)
  have EXF := Lib.hid (fun w' pb i hi (h : PB w' pb s i) => expr36 s (by omega) pb 64 1 rfl w' i hi h)
  unfold w13 at E0
  generalize allR (xo s) = RR at *
  have HQ0 : ∀ (R : Ending → World → Prop) ch (a : Act) (x : Value) (w : World), bodyPostD Try.prog Try.f13 R (.panic ch) (a.put (some 15) x) w → bodyPostD Try.prog Try.f13 R (.panic ch) a w := fun R ch a x w h => by
    have e : results Try.f13 (a.put (some 15) x).tmps = results Try.f13 a.tmps := by simp [results, Try.results13, Act.put]
    exact (leaves_eq e _ _ _).mp h
  have HQ := HQ0 (PAP w RR)
  go_enter_defers Try.func13, Try.ntmps13
  go_wp2_with fail
  go_loopw [] (fun wr => ∃ v acc fu i, AL w s RR v acc fu i wr) (fun wr => s.size + 1 - posOf (w.heap.size + 1 + 1 + 1) wr)
  case atStart => exact ⟨_, _, _, _, E0.out⟩
  case round =>
    obtain ⟨v, acc, fu, i, hel⟩ := hrel
    have EH := Lib.hid hel
    have LN := Lib.hid (posOf_eq hel.pb)
    have SKC := Lib.hid (SK.out wr _ i hel.pb hel.il)
    obtain ⟨p, c, hv⟩ := hel.lv.shape
    subst hv
    have hal := hel.al
    have hil := hel.il
    have EQ := Lib.hid hel.eq
    obtain ⟨fu', rfl⟩ : ∃ f, fu = f + 1 := ⟨fu - 1, by have := hel.fl; omega⟩
    have FL := Lib.hid hel.fl
    clear hel
    have JG := Lib.hid (sk_ge (xo s) false i)
    have JL := Lib.hid (sk_le (xo s) false (i := i) hil)
    have EQ2 := EQ.out
    unfold alF at EQ2
    rw [xo_n] at EQ2 JL
    generalize hj : sk (xo s) false i = j at *
    have EQ3 := Lib.hid EQ2
    unfold SKP at SKC
    clear EQ2 hj EQ
    by_cases hjn : j < s.size
    · have hjd : decide (j < s.size) = true := by simpa using hjn
      have EQ5 := EQ3.out
      rw [if_pos hjn] at EQ5
      have HJN := Lib.hid hjn
      rw [hjd] at SKC
      have EX := Lib.hid (fun w' h => EXF.out w' (w.heap.size + 1 + 1 + 1) j HJN.out h)
      clear hjn EQ3
      go_wp2_with fail
      refine SKC.out.mono ?_
      rintro e w1 ⟨rfl, hp1, hs1⟩
      have P1 := Lib.hid hp1
      have S1 := Lib.hid hs1
      have B1 := Lib.hid (EH.out.box.st hs1 (by omega))
      have L1 := Lib.hid (EH.out.lv.step hs1 (by omega))
      clear hp1 hs1 SKC
      cases hex : exR (xo s) 64 j with
      | ok t j' =>
        rw [hex] at EQ5 EX
        dsimp only at EQ5
        unfold EXP at EX
        dsimp only at EX
        have GT := Lib.hid (exR_gt 64 j t j' HJN.out hex)
        have EQ7 := Lib.hid EQ5
        clear EQ5 hex
        have al2 : acc.length ≤ 200000 := by omega
        have NL := Lib.hid (show (acc ++ [t]).length ≤ j' from by have := GT.out; have := JG.out; rw [List.length_append]; simp; omega)
        have NF := Lib.hid (show s.size - j' < fu' from by have := GT.out; have := JG.out; have := FL.out; rw [xo_n] at *; omega)
        go_wp2_with fail
        refine wp_region_any (by kernel_rfl) ?_
        change wpAny _ _ _ _ _ _ _ (World.drew _)
        have GA := Lib.hid (show GX w s (.slice p acc.length c) acc j w1.drew from (GX.mk EH.out.box EH.out.lv EH.out.pb EH.out.bk).step (S1.out.trans (Step.to_drew (Step.refl _ _))) P1.out)
        clear B1 L1 S1 P1
        generalize w1.drew = wa at *
        refine wpAny_ready (rs := [0, 1, 3]) (by kernel_rfl) (by simp) ?_
        refine AllReady.cons rfl (fun K hK => ?_) (AllReady.cons rfl (fun K hK => ?_) (AllReady.cons rfl (fun K hK => ?_) AllReady.nil))
        · have b0 := GA.out.b0
          go_simp
          refine hK _ _ ?_
          clear hK K b0
          refine wpAny_take (i := 2) (v := .int .i64 (acc.length : Int)) rfl (by kernel_rfl) (by kernel_rfl) (by kernel_rfl) (fun c a w h => HQ c a _ w h) (Or.inl ⟨by rfl, fun w => by go_simp⟩) ?_
          try simp only [Act.put, List.setIfInBounds_toArray, List.set_cons_zero, List.set_cons_succ]
          refine wpAny_ready (rs := [1, 3]) (by kernel_rfl) (by simp) ?_
          refine AllReady.cons rfl (fun K hK => ?_) (AllReady.cons rfl (fun K hK => ?_) AllReady.nil)
          · go_simp
            refine (EX.out _ GA.out.pb).mono ?_
            rintro e wc ⟨⟨p2, c2, rfl, hr2⟩, hp2, hs2⟩
            refine hK _ _ ?_
            clear hK K
            have GC2021 := Lib.hid (GA.out.step hs2 hp2)
            have RC2021 := Lib.hid hr2
            have CO2021 := Lib.hid (show w.heap.size + 1 + 1 + 1 + 1 ≤ wa.heap.size ∧ ∀ b, (Value.slice p acc.length c).ownBlock = some b → b < wa.heap.size from ⟨GA.out.sz, fun b hb => (GA.out.lv.vlt b hb).2⟩)
            clear hr2 hp2 hs2
            refine wpAny_ready (rs := [3]) (by kernel_rfl) (by simp) ?_
            refine AllReady.cons rfl (fun K hK => ?_) AllReady.nil
            · go_simp
              refine hK _ _ ?_
              clear hK K
              have GB30123 := Lib.hid (GC2021.out.keep (bk_alloc (BK.refl wc) (.cells #[.string ⟨#[]⟩, .slice none 0 0] 25)))
              have ZB30123 := Lib.hid (heap_alloc_new wc (.cells #[.string ⟨#[]⟩, .slice none 0 0] 25))
              have ZL30123 := Lib.hid GC2021.out.sz
              have RB30123 := Lib.hid (RC2021.out.bk (bk_alloc (BK.refl wc) (.cells #[.string ⟨#[]⟩, .slice none 0 0] 25)) (Nat.le_refl _))
              generalize wc.alloc (.cells #[.string ⟨#[]⟩, .slice none 0 0] 25) = wb30123 at *
              refine wpAny_ready (rs := [4]) (by kernel_rfl) (by simp) ?_
              refine AllReady.cons rfl (fun K hK => ?_) AllReady.nil
              refine Eq.mpr (if_pos (by rfl)) ?_
              refine wp_pushZ _ _ rfl (w.heap.size + 1 + 1 + 1 + 1) (.slice p acc.length c) acc rfl GB30123.out.lv _ rfl ZB30123.out GB30123.out.sz al2 ?_
              intro g cap w3 hl3 hs3 hg3
              have A3 := Lib.hid (AP.of GB30123.out RB30123.out CO2021.out.1 CO2021.out.2 hl3 hs3 hg3)
              refine hK _ _ ?_
              clear hK K hl3 hs3 hg3
              obtain ⟨⟨u0, z0⟩, ⟨u1, z1⟩, fz, b0, fb⟩ := A3.out.cells
              have fz0 := fz (acc.length * 2)
              have fz1 := fz (acc.length * 2 + 1)
              have ln : (acc.length : Int) < (acc.length : Int) + 1 := by omega
              have gB := Lib.hid A3.out.gl
              have ng : g ≠ w.heap.size := by have := gB.out; omega
              have gn : w.heap.size ≠ g := by have := gB.out; omega
              clear fz
              refine wpAny_ready (rs := [5, 7]) (by kernel_rfl) (by simp) ?_
              refine AllReady.cons rfl (fun K hK => ?_) (AllReady.cons rfl (fun K hK => ?_) AllReady.nil)
              · first | (go_simp; refine hK _ _ ?_) | (go_simp; simp only [if_pos ln]; go_simp; refine hK _ _ ?_)
                clear hK K
                refine wpAny_ready (rs := [6, 7]) (by kernel_rfl) (by simp) ?_
                refine AllReady.cons rfl (fun K hK => ?_) (AllReady.cons rfl (fun K hK => ?_) AllReady.nil)
                · first | (go_simp; refine hK _ _ ?_) | (go_simp; simp only [if_pos ln]; go_simp; refine hK _ _ ?_)
                  clear hK K
                  refine wpAny_ready (rs := [7]) (by kernel_rfl) (by simp) ?_
                  refine AllReady.cons rfl (fun K hK => ?_) AllReady.nil
                  · first | (go_simp; refine hK _ _ ?_) | (go_simp; simp only [if_pos ln]; go_simp; refine hK _ _ ?_)
                    clear hK K
                    refine wpAny_done (by kernel_rfl) ?_ _
                    clear z0 z1 fz0 fz1 b0 fb ln
                    go_wp2_with fail
                    go_roundw
                    case rel => exact ⟨_, _, _, _, A3.out.end67 NL.out GT.out.2 NF.out EQ7.out⟩
                    case measure => rw [posOf_eq (A3.out.end67 (fu := fu') NL.out GT.out.2 NF.out EQ7.out).pb, LN.out]; have := GT.out; have := JG.out; rw [xo_n] at *; omega
                · first | (go_simp; refine hK _ _ ?_) | (go_simp; simp only [if_pos ln]; go_simp; refine hK _ _ ?_)
                  clear hK K
                  refine wpAny_ready (rs := [6]) (by kernel_rfl) (by simp) ?_
                  refine AllReady.cons rfl (fun K hK => ?_) AllReady.nil
                  · first | (go_simp; refine hK _ _ ?_) | (go_simp; simp only [if_pos ln]; go_simp; refine hK _ _ ?_)
                    clear hK K
                    refine wpAny_done (by kernel_rfl) ?_ _
                    clear z0 z1 fz0 fz1 b0 fb ln
                    go_wp2_with fail
                    go_roundw
                    case rel => exact ⟨_, _, _, _, A3.out.end76 NL.out GT.out.2 NF.out EQ7.out⟩
                    case measure => rw [posOf_eq (A3.out.end76 (fu := fu') NL.out GT.out.2 NF.out EQ7.out).pb, LN.out]; have := GT.out; have := JG.out; rw [xo_n] at *; omega
              · first | (go_simp; refine hK _ _ ?_) | (go_simp; simp only [if_pos ln]; go_simp; refine hK _ _ ?_)
                clear hK K
                refine wpAny_ready (rs := [5]) (by kernel_rfl) (by simp) ?_
                refine AllReady.cons rfl (fun K hK => ?_) AllReady.nil
                · first | (go_simp; refine hK _ _ ?_) | (go_simp; simp only [if_pos ln]; go_simp; refine hK _ _ ?_)
                  clear hK K
                  refine wpAny_ready (rs := [6]) (by kernel_rfl) (by simp) ?_
                  refine AllReady.cons rfl (fun K hK => ?_) AllReady.nil
                  · first | (go_simp; refine hK _ _ ?_) | (go_simp; simp only [if_pos ln]; go_simp; refine hK _ _ ?_)
                    clear hK K
                    refine wpAny_done (by kernel_rfl) ?_ _
                    clear z0 z1 fz0 fz1 b0 fb ln
                    go_wp2_with fail
                    go_roundw
                    case rel => exact ⟨_, _, _, _, A3.out.end76 NL.out GT.out.2 NF.out EQ7.out⟩
                    case measure => rw [posOf_eq (A3.out.end76 (fu := fu') NL.out GT.out.2 NF.out EQ7.out).pb, LN.out]; have := GT.out; have := JG.out; rw [xo_n] at *; omega
          · go_simp
            refine hK _ _ ?_
            clear hK K
            have GB2023 := Lib.hid (GA.out.keep (bk_alloc (BK.refl wa) (.cells #[.string ⟨#[]⟩, .slice none 0 0] 25)))
            have ZB2023 := Lib.hid (heap_alloc_new wa (.cells #[.string ⟨#[]⟩, .slice none 0 0] 25))
            have ZL2023 := Lib.hid GA.out.sz
            generalize wa.alloc (.cells #[.string ⟨#[]⟩, .slice none 0 0] 25) = wb2023 at *
            refine wpAny_ready (rs := [1]) (by kernel_rfl) (by simp) ?_
            refine AllReady.cons rfl (fun K hK => ?_) AllReady.nil
            · go_simp
              refine (EX.out _ GB2023.out.pb).mono ?_
              rintro e wc ⟨⟨p2, c2, rfl, hr2⟩, hp2, hs2⟩
              refine hK _ _ ?_
              clear hK K
              have GC30231 := Lib.hid (GB2023.out.step hs2 hp2)
              have RC30231 := Lib.hid hr2
              have CO30231 := Lib.hid (show w.heap.size + 1 + 1 + 1 + 1 ≤ wb2023.heap.size ∧ ∀ b, (Value.slice p acc.length c).ownBlock = some b → b < wb2023.heap.size from ⟨GB2023.out.sz, fun b hb => (GB2023.out.lv.vlt b hb).2⟩)
              have ZC30231 := Lib.hid ((hs2.block _ (Array.getElem?_eq_some_iff.1 ZB2023.out).1 (fun e => by have := ZL2023.out; unfold oneF at e; omega)).trans ZB2023.out)
              clear hr2 hp2 hs2
              refine wpAny_ready (rs := [4]) (by kernel_rfl) (by simp) ?_
              refine AllReady.cons rfl (fun K hK => ?_) AllReady.nil
              refine Eq.mpr (if_pos (by rfl)) ?_
              refine wp_pushZ _ _ rfl (w.heap.size + 1 + 1 + 1 + 1) (.slice p acc.length c) acc rfl GC30231.out.lv _ rfl ZC30231.out GC30231.out.sz al2 ?_
              intro g cap w3 hl3 hs3 hg3
              have A3 := Lib.hid (AP.of GC30231.out RC30231.out CO30231.out.1 CO30231.out.2 hl3 hs3 hg3)
              refine hK _ _ ?_
              clear hK K hl3 hs3 hg3
              obtain ⟨⟨u0, z0⟩, ⟨u1, z1⟩, fz, b0, fb⟩ := A3.out.cells
              have fz0 := fz (acc.length * 2)
              have fz1 := fz (acc.length * 2 + 1)
              have ln : (acc.length : Int) < (acc.length : Int) + 1 := by omega
              have gB := Lib.hid A3.out.gl
              have ng : g ≠ w.heap.size := by have := gB.out; omega
              have gn : w.heap.size ≠ g := by have := gB.out; omega
              clear fz
              refine wpAny_ready (rs := [5, 7]) (by kernel_rfl) (by simp) ?_
              refine AllReady.cons rfl (fun K hK => ?_) (AllReady.cons rfl (fun K hK => ?_) AllReady.nil)
              · first | (go_simp; refine hK _ _ ?_) | (go_simp; simp only [if_pos ln]; go_simp; refine hK _ _ ?_)
                clear hK K
                refine wpAny_ready (rs := [6, 7]) (by kernel_rfl) (by simp) ?_
                refine AllReady.cons rfl (fun K hK => ?_) (AllReady.cons rfl (fun K hK => ?_) AllReady.nil)
                · first | (go_simp; refine hK _ _ ?_) | (go_simp; simp only [if_pos ln]; go_simp; refine hK _ _ ?_)
                  clear hK K
                  refine wpAny_ready (rs := [7]) (by kernel_rfl) (by simp) ?_
                  refine AllReady.cons rfl (fun K hK => ?_) AllReady.nil
                  · first | (go_simp; refine hK _ _ ?_) | (go_simp; simp only [if_pos ln]; go_simp; refine hK _ _ ?_)
                    clear hK K
                    refine wpAny_done (by kernel_rfl) ?_ _
                    clear z0 z1 fz0 fz1 b0 fb ln
                    go_wp2_with fail
                    go_roundw
                    case rel => exact ⟨_, _, _, _, A3.out.end67 NL.out GT.out.2 NF.out EQ7.out⟩
                    case measure => rw [posOf_eq (A3.out.end67 (fu := fu') NL.out GT.out.2 NF.out EQ7.out).pb, LN.out]; have := GT.out; have := JG.out; rw [xo_n] at *; omega
                · first | (go_simp; refine hK _ _ ?_) | (go_simp; simp only [if_pos ln]; go_simp; refine hK _ _ ?_)
                  clear hK K
                  refine wpAny_ready (rs := [6]) (by kernel_rfl) (by simp) ?_
                  refine AllReady.cons rfl (fun K hK => ?_) AllReady.nil
                  · first | (go_simp; refine hK _ _ ?_) | (go_simp; simp only [if_pos ln]; go_simp; refine hK _ _ ?_)
                    clear hK K
                    refine wpAny_done (by kernel_rfl) ?_ _
                    clear z0 z1 fz0 fz1 b0 fb ln
                    go_wp2_with fail
                    go_roundw
                    case rel => exact ⟨_, _, _, _, A3.out.end76 NL.out GT.out.2 NF.out EQ7.out⟩
                    case measure => rw [posOf_eq (A3.out.end76 (fu := fu') NL.out GT.out.2 NF.out EQ7.out).pb, LN.out]; have := GT.out; have := JG.out; rw [xo_n] at *; omega
              · first | (go_simp; refine hK _ _ ?_) | (go_simp; simp only [if_pos ln]; go_simp; refine hK _ _ ?_)
                clear hK K
                refine wpAny_ready (rs := [5]) (by kernel_rfl) (by simp) ?_
                refine AllReady.cons rfl (fun K hK => ?_) AllReady.nil
                · first | (go_simp; refine hK _ _ ?_) | (go_simp; simp only [if_pos ln]; go_simp; refine hK _ _ ?_)
                  clear hK K
                  refine wpAny_ready (rs := [6]) (by kernel_rfl) (by simp) ?_
                  refine AllReady.cons rfl (fun K hK => ?_) AllReady.nil
                  · first | (go_simp; refine hK _ _ ?_) | (go_simp; simp only [if_pos ln]; go_simp; refine hK _ _ ?_)
                    clear hK K
                    refine wpAny_done (by kernel_rfl) ?_ _
                    clear z0 z1 fz0 fz1 b0 fb ln
                    go_wp2_with fail
                    go_roundw
                    case rel => exact ⟨_, _, _, _, A3.out.end76 NL.out GT.out.2 NF.out EQ7.out⟩
                    case measure => rw [posOf_eq (A3.out.end76 (fu := fu') NL.out GT.out.2 NF.out EQ7.out).pb, LN.out]; have := GT.out; have := JG.out; rw [xo_n] at *; omega
        · go_simp
          refine (EX.out _ GA.out.pb).mono ?_
          rintro e wc ⟨⟨p2, c2, rfl, hr2⟩, hp2, hs2⟩
          refine hK _ _ ?_
          clear hK K
          have GC01 := Lib.hid (GA.out.step hs2 hp2)
          have RC01 := Lib.hid hr2
          have CO01 := Lib.hid (show w.heap.size + 1 + 1 + 1 + 1 ≤ wa.heap.size ∧ ∀ b, (Value.slice p acc.length c).ownBlock = some b → b < wa.heap.size from ⟨GA.out.sz, fun b hb => (GA.out.lv.vlt b hb).2⟩)
          clear hr2 hp2 hs2
          refine wpAny_ready (rs := [0, 3]) (by kernel_rfl) (by simp) ?_
          refine AllReady.cons rfl (fun K hK => ?_) (AllReady.cons rfl (fun K hK => ?_) AllReady.nil)
          · have b0 := GC01.out.b0
            go_simp
            refine hK _ _ ?_
            clear hK K b0
            refine wpAny_take (i := 2) (v := .int .i64 (acc.length : Int)) rfl (by kernel_rfl) (by kernel_rfl) (by kernel_rfl) (fun c a w h => HQ c a _ w h) (Or.inl ⟨by rfl, fun w => by go_simp⟩) ?_
            try simp only [Act.put, List.setIfInBounds_toArray, List.set_cons_zero, List.set_cons_succ]
            refine wpAny_ready (rs := [3]) (by kernel_rfl) (by simp) ?_
            refine AllReady.cons rfl (fun K hK => ?_) AllReady.nil
            · go_simp
              refine hK _ _ ?_
              clear hK K
              have GB30123 := Lib.hid (GC01.out.keep (bk_alloc (BK.refl wc) (.cells #[.string ⟨#[]⟩, .slice none 0 0] 25)))
              have ZB30123 := Lib.hid (heap_alloc_new wc (.cells #[.string ⟨#[]⟩, .slice none 0 0] 25))
              have ZL30123 := Lib.hid GC01.out.sz
              have RB30123 := Lib.hid (RC01.out.bk (bk_alloc (BK.refl wc) (.cells #[.string ⟨#[]⟩, .slice none 0 0] 25)) (Nat.le_refl _))
              generalize wc.alloc (.cells #[.string ⟨#[]⟩, .slice none 0 0] 25) = wb30123 at *
              refine wpAny_ready (rs := [4]) (by kernel_rfl) (by simp) ?_
              refine AllReady.cons rfl (fun K hK => ?_) AllReady.nil
              refine Eq.mpr (if_pos (by rfl)) ?_
              refine wp_pushZ _ _ rfl (w.heap.size + 1 + 1 + 1 + 1) (.slice p acc.length c) acc rfl GB30123.out.lv _ rfl ZB30123.out GB30123.out.sz al2 ?_
              intro g cap w3 hl3 hs3 hg3
              have A3 := Lib.hid (AP.of GB30123.out RB30123.out CO01.out.1 CO01.out.2 hl3 hs3 hg3)
              refine hK _ _ ?_
              clear hK K hl3 hs3 hg3
              obtain ⟨⟨u0, z0⟩, ⟨u1, z1⟩, fz, b0, fb⟩ := A3.out.cells
              have fz0 := fz (acc.length * 2)
              have fz1 := fz (acc.length * 2 + 1)
              have ln : (acc.length : Int) < (acc.length : Int) + 1 := by omega
              have gB := Lib.hid A3.out.gl
              have ng : g ≠ w.heap.size := by have := gB.out; omega
              have gn : w.heap.size ≠ g := by have := gB.out; omega
              clear fz
              refine wpAny_ready (rs := [5, 7]) (by kernel_rfl) (by simp) ?_
              refine AllReady.cons rfl (fun K hK => ?_) (AllReady.cons rfl (fun K hK => ?_) AllReady.nil)
              · first | (go_simp; refine hK _ _ ?_) | (go_simp; simp only [if_pos ln]; go_simp; refine hK _ _ ?_)
                clear hK K
                refine wpAny_ready (rs := [6, 7]) (by kernel_rfl) (by simp) ?_
                refine AllReady.cons rfl (fun K hK => ?_) (AllReady.cons rfl (fun K hK => ?_) AllReady.nil)
                · first | (go_simp; refine hK _ _ ?_) | (go_simp; simp only [if_pos ln]; go_simp; refine hK _ _ ?_)
                  clear hK K
                  refine wpAny_ready (rs := [7]) (by kernel_rfl) (by simp) ?_
                  refine AllReady.cons rfl (fun K hK => ?_) AllReady.nil
                  · first | (go_simp; refine hK _ _ ?_) | (go_simp; simp only [if_pos ln]; go_simp; refine hK _ _ ?_)
                    clear hK K
                    refine wpAny_done (by kernel_rfl) ?_ _
                    clear z0 z1 fz0 fz1 b0 fb ln
                    go_wp2_with fail
                    go_roundw
                    case rel => exact ⟨_, _, _, _, A3.out.end67 NL.out GT.out.2 NF.out EQ7.out⟩
                    case measure => rw [posOf_eq (A3.out.end67 (fu := fu') NL.out GT.out.2 NF.out EQ7.out).pb, LN.out]; have := GT.out; have := JG.out; rw [xo_n] at *; omega
                · first | (go_simp; refine hK _ _ ?_) | (go_simp; simp only [if_pos ln]; go_simp; refine hK _ _ ?_)
                  clear hK K
                  refine wpAny_ready (rs := [6]) (by kernel_rfl) (by simp) ?_
                  refine AllReady.cons rfl (fun K hK => ?_) AllReady.nil
                  · first | (go_simp; refine hK _ _ ?_) | (go_simp; simp only [if_pos ln]; go_simp; refine hK _ _ ?_)
                    clear hK K
                    refine wpAny_done (by kernel_rfl) ?_ _
                    clear z0 z1 fz0 fz1 b0 fb ln
                    go_wp2_with fail
                    go_roundw
                    case rel => exact ⟨_, _, _, _, A3.out.end76 NL.out GT.out.2 NF.out EQ7.out⟩
                    case measure => rw [posOf_eq (A3.out.end76 (fu := fu') NL.out GT.out.2 NF.out EQ7.out).pb, LN.out]; have := GT.out; have := JG.out; rw [xo_n] at *; omega
              · first | (go_simp; refine hK _ _ ?_) | (go_simp; simp only [if_pos ln]; go_simp; refine hK _ _ ?_)
                clear hK K
                refine wpAny_ready (rs := [5]) (by kernel_rfl) (by simp) ?_
                refine AllReady.cons rfl (fun K hK => ?_) AllReady.nil
                · first | (go_simp; refine hK _ _ ?_) | (go_simp; simp only [if_pos ln]; go_simp; refine hK _ _ ?_)
                  clear hK K
                  refine wpAny_ready (rs := [6]) (by kernel_rfl) (by simp) ?_
                  refine AllReady.cons rfl (fun K hK => ?_) AllReady.nil
                  · first | (go_simp; refine hK _ _ ?_) | (go_simp; simp only [if_pos ln]; go_simp; refine hK _ _ ?_)
                    clear hK K
                    refine wpAny_done (by kernel_rfl) ?_ _
                    clear z0 z1 fz0 fz1 b0 fb ln
                    go_wp2_with fail
                    go_roundw
                    case rel => exact ⟨_, _, _, _, A3.out.end76 NL.out GT.out.2 NF.out EQ7.out⟩
                    case measure => rw [posOf_eq (A3.out.end76 (fu := fu') NL.out GT.out.2 NF.out EQ7.out).pb, LN.out]; have := GT.out; have := JG.out; rw [xo_n] at *; omega
          · go_simp
            refine hK _ _ ?_
            clear hK K
            have GB113 := Lib.hid (GC01.out.keep (bk_alloc (BK.refl wc) (.cells #[.string ⟨#[]⟩, .slice none 0 0] 25)))
            have ZB113 := Lib.hid (heap_alloc_new wc (.cells #[.string ⟨#[]⟩, .slice none 0 0] 25))
            have ZL113 := Lib.hid GC01.out.sz
            have RB113 := Lib.hid (RC01.out.bk (bk_alloc (BK.refl wc) (.cells #[.string ⟨#[]⟩, .slice none 0 0] 25)) (Nat.le_refl _))
            generalize wc.alloc (.cells #[.string ⟨#[]⟩, .slice none 0 0] 25) = wb113 at *
            refine wpAny_ready (rs := [0]) (by kernel_rfl) (by simp) ?_
            refine AllReady.cons rfl (fun K hK => ?_) AllReady.nil
            · have b0 := GB113.out.b0
              go_simp
              refine hK _ _ ?_
              clear hK K b0
              refine wpAny_take (i := 2) (v := .int .i64 (acc.length : Int)) rfl (by kernel_rfl) (by kernel_rfl) (by kernel_rfl) (fun c a w h => HQ c a _ w h) (Or.inl ⟨by rfl, fun w => by go_simp⟩) ?_
              try simp only [Act.put, List.setIfInBounds_toArray, List.set_cons_zero, List.set_cons_succ]
              refine wpAny_ready (rs := [4]) (by kernel_rfl) (by simp) ?_
              refine AllReady.cons rfl (fun K hK => ?_) AllReady.nil
              refine Eq.mpr (if_pos (by rfl)) ?_
              refine wp_pushZ _ _ rfl (w.heap.size + 1 + 1 + 1 + 1) (.slice p acc.length c) acc rfl GB113.out.lv _ rfl ZB113.out GB113.out.sz al2 ?_
              intro g cap w3 hl3 hs3 hg3
              have A3 := Lib.hid (AP.of GB113.out RB113.out CO01.out.1 CO01.out.2 hl3 hs3 hg3)
              refine hK _ _ ?_
              clear hK K hl3 hs3 hg3
              obtain ⟨⟨u0, z0⟩, ⟨u1, z1⟩, fz, b0, fb⟩ := A3.out.cells
              have fz0 := fz (acc.length * 2)
              have fz1 := fz (acc.length * 2 + 1)
              have ln : (acc.length : Int) < (acc.length : Int) + 1 := by omega
              have gB := Lib.hid A3.out.gl
              have ng : g ≠ w.heap.size := by have := gB.out; omega
              have gn : w.heap.size ≠ g := by have := gB.out; omega
              clear fz
              refine wpAny_ready (rs := [5, 7]) (by kernel_rfl) (by simp) ?_
              refine AllReady.cons rfl (fun K hK => ?_) (AllReady.cons rfl (fun K hK => ?_) AllReady.nil)
              · first | (go_simp; refine hK _ _ ?_) | (go_simp; simp only [if_pos ln]; go_simp; refine hK _ _ ?_)
                clear hK K
                refine wpAny_ready (rs := [6, 7]) (by kernel_rfl) (by simp) ?_
                refine AllReady.cons rfl (fun K hK => ?_) (AllReady.cons rfl (fun K hK => ?_) AllReady.nil)
                · first | (go_simp; refine hK _ _ ?_) | (go_simp; simp only [if_pos ln]; go_simp; refine hK _ _ ?_)
                  clear hK K
                  refine wpAny_ready (rs := [7]) (by kernel_rfl) (by simp) ?_
                  refine AllReady.cons rfl (fun K hK => ?_) AllReady.nil
                  · first | (go_simp; refine hK _ _ ?_) | (go_simp; simp only [if_pos ln]; go_simp; refine hK _ _ ?_)
                    clear hK K
                    refine wpAny_done (by kernel_rfl) ?_ _
                    clear z0 z1 fz0 fz1 b0 fb ln
                    go_wp2_with fail
                    go_roundw
                    case rel => exact ⟨_, _, _, _, A3.out.end67 NL.out GT.out.2 NF.out EQ7.out⟩
                    case measure => rw [posOf_eq (A3.out.end67 (fu := fu') NL.out GT.out.2 NF.out EQ7.out).pb, LN.out]; have := GT.out; have := JG.out; rw [xo_n] at *; omega
                · first | (go_simp; refine hK _ _ ?_) | (go_simp; simp only [if_pos ln]; go_simp; refine hK _ _ ?_)
                  clear hK K
                  refine wpAny_ready (rs := [6]) (by kernel_rfl) (by simp) ?_
                  refine AllReady.cons rfl (fun K hK => ?_) AllReady.nil
                  · first | (go_simp; refine hK _ _ ?_) | (go_simp; simp only [if_pos ln]; go_simp; refine hK _ _ ?_)
                    clear hK K
                    refine wpAny_done (by kernel_rfl) ?_ _
                    clear z0 z1 fz0 fz1 b0 fb ln
                    go_wp2_with fail
                    go_roundw
                    case rel => exact ⟨_, _, _, _, A3.out.end76 NL.out GT.out.2 NF.out EQ7.out⟩
                    case measure => rw [posOf_eq (A3.out.end76 (fu := fu') NL.out GT.out.2 NF.out EQ7.out).pb, LN.out]; have := GT.out; have := JG.out; rw [xo_n] at *; omega
              · first | (go_simp; refine hK _ _ ?_) | (go_simp; simp only [if_pos ln]; go_simp; refine hK _ _ ?_)
                clear hK K
                refine wpAny_ready (rs := [5]) (by kernel_rfl) (by simp) ?_
                refine AllReady.cons rfl (fun K hK => ?_) AllReady.nil
                · first | (go_simp; refine hK _ _ ?_) | (go_simp; simp only [if_pos ln]; go_simp; refine hK _ _ ?_)
                  clear hK K
                  refine wpAny_ready (rs := [6]) (by kernel_rfl) (by simp) ?_
                  refine AllReady.cons rfl (fun K hK => ?_) AllReady.nil
                  · first | (go_simp; refine hK _ _ ?_) | (go_simp; simp only [if_pos ln]; go_simp; refine hK _ _ ?_)
                    clear hK K
                    refine wpAny_done (by kernel_rfl) ?_ _
                    clear z0 z1 fz0 fz1 b0 fb ln
                    go_wp2_with fail
                    go_roundw
                    case rel => exact ⟨_, _, _, _, A3.out.end76 NL.out GT.out.2 NF.out EQ7.out⟩
                    case measure => rw [posOf_eq (A3.out.end76 (fu := fu') NL.out GT.out.2 NF.out EQ7.out).pb, LN.out]; have := GT.out; have := JG.out; rw [xo_n] at *; omega
        · go_simp
          refine hK _ _ ?_
          clear hK K
          have GB03 := Lib.hid (GA.out.keep (bk_alloc (BK.refl wa) (.cells #[.string ⟨#[]⟩, .slice none 0 0] 25)))
          have ZB03 := Lib.hid (heap_alloc_new wa (.cells #[.string ⟨#[]⟩, .slice none 0 0] 25))
          have ZL03 := Lib.hid GA.out.sz
          generalize wa.alloc (.cells #[.string ⟨#[]⟩, .slice none 0 0] 25) = wb03 at *
          refine wpAny_ready (rs := [0, 1]) (by kernel_rfl) (by simp) ?_
          refine AllReady.cons rfl (fun K hK => ?_) (AllReady.cons rfl (fun K hK => ?_) AllReady.nil)
          · have b0 := GB03.out.b0
            go_simp
            refine hK _ _ ?_
            clear hK K b0
            refine wpAny_take (i := 2) (v := .int .i64 (acc.length : Int)) rfl (by kernel_rfl) (by kernel_rfl) (by kernel_rfl) (fun c a w h => HQ c a _ w h) (Or.inl ⟨by rfl, fun w => by go_simp⟩) ?_
            try simp only [Act.put, List.setIfInBounds_toArray, List.set_cons_zero, List.set_cons_succ]
            refine wpAny_ready (rs := [1]) (by kernel_rfl) (by simp) ?_
            refine AllReady.cons rfl (fun K hK => ?_) AllReady.nil
            · go_simp
              refine (EX.out _ GB03.out.pb).mono ?_
              rintro e wc ⟨⟨p2, c2, rfl, hr2⟩, hp2, hs2⟩
              refine hK _ _ ?_
              clear hK K
              have GC30231 := Lib.hid (GB03.out.step hs2 hp2)
              have RC30231 := Lib.hid hr2
              have CO30231 := Lib.hid (show w.heap.size + 1 + 1 + 1 + 1 ≤ wb03.heap.size ∧ ∀ b, (Value.slice p acc.length c).ownBlock = some b → b < wb03.heap.size from ⟨GB03.out.sz, fun b hb => (GB03.out.lv.vlt b hb).2⟩)
              have ZC30231 := Lib.hid ((hs2.block _ (Array.getElem?_eq_some_iff.1 ZB03.out).1 (fun e => by have := ZL03.out; unfold oneF at e; omega)).trans ZB03.out)
              clear hr2 hp2 hs2
              refine wpAny_ready (rs := [4]) (by kernel_rfl) (by simp) ?_
              refine AllReady.cons rfl (fun K hK => ?_) AllReady.nil
              refine Eq.mpr (if_pos (by rfl)) ?_
              refine wp_pushZ _ _ rfl (w.heap.size + 1 + 1 + 1 + 1) (.slice p acc.length c) acc rfl GC30231.out.lv _ rfl ZC30231.out GC30231.out.sz al2 ?_
              intro g cap w3 hl3 hs3 hg3
              have A3 := Lib.hid (AP.of GC30231.out RC30231.out CO30231.out.1 CO30231.out.2 hl3 hs3 hg3)
              refine hK _ _ ?_
              clear hK K hl3 hs3 hg3
              obtain ⟨⟨u0, z0⟩, ⟨u1, z1⟩, fz, b0, fb⟩ := A3.out.cells
              have fz0 := fz (acc.length * 2)
              have fz1 := fz (acc.length * 2 + 1)
              have ln : (acc.length : Int) < (acc.length : Int) + 1 := by omega
              have gB := Lib.hid A3.out.gl
              have ng : g ≠ w.heap.size := by have := gB.out; omega
              have gn : w.heap.size ≠ g := by have := gB.out; omega
              clear fz
              refine wpAny_ready (rs := [5, 7]) (by kernel_rfl) (by simp) ?_
              refine AllReady.cons rfl (fun K hK => ?_) (AllReady.cons rfl (fun K hK => ?_) AllReady.nil)
              · first | (go_simp; refine hK _ _ ?_) | (go_simp; simp only [if_pos ln]; go_simp; refine hK _ _ ?_)
                clear hK K
                refine wpAny_ready (rs := [6, 7]) (by kernel_rfl) (by simp) ?_
                refine AllReady.cons rfl (fun K hK => ?_) (AllReady.cons rfl (fun K hK => ?_) AllReady.nil)
                · first | (go_simp; refine hK _ _ ?_) | (go_simp; simp only [if_pos ln]; go_simp; refine hK _ _ ?_)
                  clear hK K
                  refine wpAny_ready (rs := [7]) (by kernel_rfl) (by simp) ?_
                  refine AllReady.cons rfl (fun K hK => ?_) AllReady.nil
                  · first | (go_simp; refine hK _ _ ?_) | (go_simp; simp only [if_pos ln]; go_simp; refine hK _ _ ?_)
                    clear hK K
                    refine wpAny_done (by kernel_rfl) ?_ _
                    clear z0 z1 fz0 fz1 b0 fb ln
                    go_wp2_with fail
                    go_roundw
                    case rel => exact ⟨_, _, _, _, A3.out.end67 NL.out GT.out.2 NF.out EQ7.out⟩
                    case measure => rw [posOf_eq (A3.out.end67 (fu := fu') NL.out GT.out.2 NF.out EQ7.out).pb, LN.out]; have := GT.out; have := JG.out; rw [xo_n] at *; omega
                · first | (go_simp; refine hK _ _ ?_) | (go_simp; simp only [if_pos ln]; go_simp; refine hK _ _ ?_)
                  clear hK K
                  refine wpAny_ready (rs := [6]) (by kernel_rfl) (by simp) ?_
                  refine AllReady.cons rfl (fun K hK => ?_) AllReady.nil
                  · first | (go_simp; refine hK _ _ ?_) | (go_simp; simp only [if_pos ln]; go_simp; refine hK _ _ ?_)
                    clear hK K
                    refine wpAny_done (by kernel_rfl) ?_ _
                    clear z0 z1 fz0 fz1 b0 fb ln
                    go_wp2_with fail
                    go_roundw
                    case rel => exact ⟨_, _, _, _, A3.out.end76 NL.out GT.out.2 NF.out EQ7.out⟩
                    case measure => rw [posOf_eq (A3.out.end76 (fu := fu') NL.out GT.out.2 NF.out EQ7.out).pb, LN.out]; have := GT.out; have := JG.out; rw [xo_n] at *; omega
              · first | (go_simp; refine hK _ _ ?_) | (go_simp; simp only [if_pos ln]; go_simp; refine hK _ _ ?_)
                clear hK K
                refine wpAny_ready (rs := [5]) (by kernel_rfl) (by simp) ?_
                refine AllReady.cons rfl (fun K hK => ?_) AllReady.nil
                · first | (go_simp; refine hK _ _ ?_) | (go_simp; simp only [if_pos ln]; go_simp; refine hK _ _ ?_)
                  clear hK K
                  refine wpAny_ready (rs := [6]) (by kernel_rfl) (by simp) ?_
                  refine AllReady.cons rfl (fun K hK => ?_) AllReady.nil
                  · first | (go_simp; refine hK _ _ ?_) | (go_simp; simp only [if_pos ln]; go_simp; refine hK _ _ ?_)
                    clear hK K
                    refine wpAny_done (by kernel_rfl) ?_ _
                    clear z0 z1 fz0 fz1 b0 fb ln
                    go_wp2_with fail
                    go_roundw
                    case rel => exact ⟨_, _, _, _, A3.out.end76 NL.out GT.out.2 NF.out EQ7.out⟩
                    case measure => rw [posOf_eq (A3.out.end76 (fu := fu') NL.out GT.out.2 NF.out EQ7.out).pb, LN.out]; have := GT.out; have := JG.out; rw [xo_n] at *; omega
          · go_simp
            refine (EX.out _ GB03.out.pb).mono ?_
            rintro e wc ⟨⟨p2, c2, rfl, hr2⟩, hp2, hs2⟩
            refine hK _ _ ?_
            clear hK K
            have GC131 := Lib.hid (GB03.out.step hs2 hp2)
            have RC131 := Lib.hid hr2
            have CO131 := Lib.hid (show w.heap.size + 1 + 1 + 1 + 1 ≤ wb03.heap.size ∧ ∀ b, (Value.slice p acc.length c).ownBlock = some b → b < wb03.heap.size from ⟨GB03.out.sz, fun b hb => (GB03.out.lv.vlt b hb).2⟩)
            have ZC131 := Lib.hid ((hs2.block _ (Array.getElem?_eq_some_iff.1 ZB03.out).1 (fun e => by have := ZL03.out; unfold oneF at e; omega)).trans ZB03.out)
            clear hr2 hp2 hs2
            refine wpAny_ready (rs := [0]) (by kernel_rfl) (by simp) ?_
            refine AllReady.cons rfl (fun K hK => ?_) AllReady.nil
            · have b0 := GC131.out.b0
              go_simp
              refine hK _ _ ?_
              clear hK K b0
              refine wpAny_take (i := 2) (v := .int .i64 (acc.length : Int)) rfl (by kernel_rfl) (by kernel_rfl) (by kernel_rfl) (fun c a w h => HQ c a _ w h) (Or.inl ⟨by rfl, fun w => by go_simp⟩) ?_
              try simp only [Act.put, List.setIfInBounds_toArray, List.set_cons_zero, List.set_cons_succ]
              refine wpAny_ready (rs := [4]) (by kernel_rfl) (by simp) ?_
              refine AllReady.cons rfl (fun K hK => ?_) AllReady.nil
              refine Eq.mpr (if_pos (by rfl)) ?_
              refine wp_pushZ _ _ rfl (w.heap.size + 1 + 1 + 1 + 1) (.slice p acc.length c) acc rfl GC131.out.lv _ rfl ZC131.out GC131.out.sz al2 ?_
              intro g cap w3 hl3 hs3 hg3
              have A3 := Lib.hid (AP.of GC131.out RC131.out CO131.out.1 CO131.out.2 hl3 hs3 hg3)
              refine hK _ _ ?_
              clear hK K hl3 hs3 hg3
              obtain ⟨⟨u0, z0⟩, ⟨u1, z1⟩, fz, b0, fb⟩ := A3.out.cells
              have fz0 := fz (acc.length * 2)
              have fz1 := fz (acc.length * 2 + 1)
              have ln : (acc.length : Int) < (acc.length : Int) + 1 := by omega
              have gB := Lib.hid A3.out.gl
              have ng : g ≠ w.heap.size := by have := gB.out; omega
              have gn : w.heap.size ≠ g := by have := gB.out; omega
              clear fz
              refine wpAny_ready (rs := [5, 7]) (by kernel_rfl) (by simp) ?_
              refine AllReady.cons rfl (fun K hK => ?_) (AllReady.cons rfl (fun K hK => ?_) AllReady.nil)
              · first | (go_simp; refine hK _ _ ?_) | (go_simp; simp only [if_pos ln]; go_simp; refine hK _ _ ?_)
                clear hK K
                refine wpAny_ready (rs := [6, 7]) (by kernel_rfl) (by simp) ?_
                refine AllReady.cons rfl (fun K hK => ?_) (AllReady.cons rfl (fun K hK => ?_) AllReady.nil)
                · first | (go_simp; refine hK _ _ ?_) | (go_simp; simp only [if_pos ln]; go_simp; refine hK _ _ ?_)
                  clear hK K
                  refine wpAny_ready (rs := [7]) (by kernel_rfl) (by simp) ?_
                  refine AllReady.cons rfl (fun K hK => ?_) AllReady.nil
                  · first | (go_simp; refine hK _ _ ?_) | (go_simp; simp only [if_pos ln]; go_simp; refine hK _ _ ?_)
                    clear hK K
                    refine wpAny_done (by kernel_rfl) ?_ _
                    clear z0 z1 fz0 fz1 b0 fb ln
                    go_wp2_with fail
                    go_roundw
                    case rel => exact ⟨_, _, _, _, A3.out.end67 NL.out GT.out.2 NF.out EQ7.out⟩
                    case measure => rw [posOf_eq (A3.out.end67 (fu := fu') NL.out GT.out.2 NF.out EQ7.out).pb, LN.out]; have := GT.out; have := JG.out; rw [xo_n] at *; omega
                · first | (go_simp; refine hK _ _ ?_) | (go_simp; simp only [if_pos ln]; go_simp; refine hK _ _ ?_)
                  clear hK K
                  refine wpAny_ready (rs := [6]) (by kernel_rfl) (by simp) ?_
                  refine AllReady.cons rfl (fun K hK => ?_) AllReady.nil
                  · first | (go_simp; refine hK _ _ ?_) | (go_simp; simp only [if_pos ln]; go_simp; refine hK _ _ ?_)
                    clear hK K
                    refine wpAny_done (by kernel_rfl) ?_ _
                    clear z0 z1 fz0 fz1 b0 fb ln
                    go_wp2_with fail
                    go_roundw
                    case rel => exact ⟨_, _, _, _, A3.out.end76 NL.out GT.out.2 NF.out EQ7.out⟩
                    case measure => rw [posOf_eq (A3.out.end76 (fu := fu') NL.out GT.out.2 NF.out EQ7.out).pb, LN.out]; have := GT.out; have := JG.out; rw [xo_n] at *; omega
              · first | (go_simp; refine hK _ _ ?_) | (go_simp; simp only [if_pos ln]; go_simp; refine hK _ _ ?_)
                clear hK K
                refine wpAny_ready (rs := [5]) (by kernel_rfl) (by simp) ?_
                refine AllReady.cons rfl (fun K hK => ?_) AllReady.nil
                · first | (go_simp; refine hK _ _ ?_) | (go_simp; simp only [if_pos ln]; go_simp; refine hK _ _ ?_)
                  clear hK K
                  refine wpAny_ready (rs := [6]) (by kernel_rfl) (by simp) ?_
                  refine AllReady.cons rfl (fun K hK => ?_) AllReady.nil
                  · first | (go_simp; refine hK _ _ ?_) | (go_simp; simp only [if_pos ln]; go_simp; refine hK _ _ ?_)
                    clear hK K
                    refine wpAny_done (by kernel_rfl) ?_ _
                    clear z0 z1 fz0 fz1 b0 fb ln
                    go_wp2_with fail
                    go_roundw
                    case rel => exact ⟨_, _, _, _, A3.out.end76 NL.out GT.out.2 NF.out EQ7.out⟩
                    case measure => rw [posOf_eq (A3.out.end76 (fu := fu') NL.out GT.out.2 NF.out EQ7.out).pb, LN.out]; have := GT.out; have := JG.out; rw [xo_n] at *; omega
      | err j' c' =>
        rw [hex] at EQ5 EX
        dsimp only at EQ5
        unfold EXP at EX
        dsimp only at EX
        subst EQ5
        clear hex
        go_wp2_with fail
        refine wp_region_any (by kernel_rfl) ?_
        change wpAny _ _ _ _ _ _ _ (World.drew _)
        have GA := Lib.hid (show GX w s (.slice p acc.length c) acc j w1.drew from (GX.mk EH.out.box EH.out.lv EH.out.pb EH.out.bk).step (S1.out.trans (Step.to_drew (Step.refl _ _))) P1.out)
        clear B1 L1 S1 P1
        generalize w1.drew = wa at *
        refine wpAny_ready (rs := [0, 1, 3]) (by kernel_rfl) (by simp) ?_
        refine AllReady.cons rfl (fun K hK => ?_) (AllReady.cons rfl (fun K hK => ?_) (AllReady.cons rfl (fun K hK => ?_) AllReady.nil))
        · have b0 := GA.out.b0
          go_simp
          refine hK _ _ ?_
          clear hK K b0
          refine wpAny_ready (rs := [1, 2, 3]) (by kernel_rfl) (by simp) ?_
          refine AllReady.cons rfl (fun K hK => ?_) (AllReady.cons rfl (fun K hK => ?_) (AllReady.cons rfl (fun K hK => ?_) AllReady.nil))
          · go_simp
            refine (EX.out _ GA.out.pb).mono ?_
            rintro e wc ⟨rfl, hs2⟩
            exact leave_panic ⟨rfl, rfl, rfl⟩ (GA.out.box.st hs2 (by omega)) j' c' (fun w' h => ⟨rfl, h w (step_bk GA.out.bk hs2 (by omega)) (Nat.le_refl _)⟩)
          · go_simp
            refine hK _ _ ?_
            clear hK K
            refine wpAny_ready (rs := [1, 3]) (by kernel_rfl) (by simp) ?_
            refine AllReady.cons rfl (fun K hK => ?_) (AllReady.cons rfl (fun K hK => ?_) AllReady.nil)
            · go_simp
              refine (EX.out _ GA.out.pb).mono ?_
              rintro e wc ⟨rfl, hs2⟩
              exact leave_panic ⟨rfl, rfl, rfl⟩ (GA.out.box.st hs2 (by omega)) j' c' (fun w' h => ⟨rfl, h w (step_bk GA.out.bk hs2 (by omega)) (Nat.le_refl _)⟩)
            · go_simp
              refine hK _ _ ?_
              clear hK K
              have GB2023 := Lib.hid (GA.out.keep (bk_alloc (BK.refl wa) (.cells #[.string ⟨#[]⟩, .slice none 0 0] 25)))
              have ZB2023 := Lib.hid (heap_alloc_new wa (.cells #[.string ⟨#[]⟩, .slice none 0 0] 25))
              have ZL2023 := Lib.hid GA.out.sz
              generalize wa.alloc (.cells #[.string ⟨#[]⟩, .slice none 0 0] 25) = wb2023 at *
              refine wpAny_ready (rs := [1]) (by kernel_rfl) (by simp) ?_
              refine AllReady.cons rfl (fun K hK => ?_) AllReady.nil
              · go_simp
                refine (EX.out _ GB2023.out.pb).mono ?_
                rintro e wc ⟨rfl, hs2⟩
                exact leave_panic ⟨rfl, rfl, rfl⟩ (GB2023.out.box.st hs2 (by omega)) j' c' (fun w' h => ⟨rfl, h w (step_bk GB2023.out.bk hs2 (by omega)) (Nat.le_refl _)⟩)
          · go_simp
            refine hK _ _ ?_
            clear hK K
            have GB103 := Lib.hid (GA.out.keep (bk_alloc (BK.refl wa) (.cells #[.string ⟨#[]⟩, .slice none 0 0] 25)))
            have ZB103 := Lib.hid (heap_alloc_new wa (.cells #[.string ⟨#[]⟩, .slice none 0 0] 25))
            have ZL103 := Lib.hid GA.out.sz
            generalize wa.alloc (.cells #[.string ⟨#[]⟩, .slice none 0 0] 25) = wb103 at *
            refine wpAny_ready (rs := [1, 2]) (by kernel_rfl) (by simp) ?_
            refine AllReady.cons rfl (fun K hK => ?_) (AllReady.cons rfl (fun K hK => ?_) AllReady.nil)
            · go_simp
              refine (EX.out _ GB103.out.pb).mono ?_
              rintro e wc ⟨rfl, hs2⟩
              exact leave_panic ⟨rfl, rfl, rfl⟩ (GB103.out.box.st hs2 (by omega)) j' c' (fun w' h => ⟨rfl, h w (step_bk GB103.out.bk hs2 (by omega)) (Nat.le_refl _)⟩)
            · go_simp
              refine hK _ _ ?_
              clear hK K
              refine wpAny_ready (rs := [1]) (by kernel_rfl) (by simp) ?_
              refine AllReady.cons rfl (fun K hK => ?_) AllReady.nil
              · go_simp
                refine (EX.out _ GB103.out.pb).mono ?_
                rintro e wc ⟨rfl, hs2⟩
                exact leave_panic ⟨rfl, rfl, rfl⟩ (GB103.out.box.st hs2 (by omega)) j' c' (fun w' h => ⟨rfl, h w (step_bk GB103.out.bk hs2 (by omega)) (Nat.le_refl _)⟩)
        · go_simp
          refine (EX.out _ GA.out.pb).mono ?_
          rintro e wc ⟨rfl, hs2⟩
          exact leave_panic ⟨rfl, rfl, rfl⟩ (GA.out.box.st hs2 (by omega)) j' c' (fun w' h => ⟨rfl, h w (step_bk GA.out.bk hs2 (by omega)) (Nat.le_refl _)⟩)
        · go_simp
          refine hK _ _ ?_
          clear hK K
          have GB03 := Lib.hid (GA.out.keep (bk_alloc (BK.refl wa) (.cells #[.string ⟨#[]⟩, .slice none 0 0] 25)))
          have ZB03 := Lib.hid (heap_alloc_new wa (.cells #[.string ⟨#[]⟩, .slice none 0 0] 25))
          have ZL03 := Lib.hid GA.out.sz
          generalize wa.alloc (.cells #[.string ⟨#[]⟩, .slice none 0 0] 25) = wb03 at *
          refine wpAny_ready (rs := [0, 1]) (by kernel_rfl) (by simp) ?_
          refine AllReady.cons rfl (fun K hK => ?_) (AllReady.cons rfl (fun K hK => ?_) AllReady.nil)
          · have b0 := GB03.out.b0
            go_simp
            refine hK _ _ ?_
            clear hK K b0
            refine wpAny_ready (rs := [1, 2]) (by kernel_rfl) (by simp) ?_
            refine AllReady.cons rfl (fun K hK => ?_) (AllReady.cons rfl (fun K hK => ?_) AllReady.nil)
            · go_simp
              refine (EX.out _ GB03.out.pb).mono ?_
              rintro e wc ⟨rfl, hs2⟩
              exact leave_panic ⟨rfl, rfl, rfl⟩ (GB03.out.box.st hs2 (by omega)) j' c' (fun w' h => ⟨rfl, h w (step_bk GB03.out.bk hs2 (by omega)) (Nat.le_refl _)⟩)
            · go_simp
              refine hK _ _ ?_
              clear hK K
              refine wpAny_ready (rs := [1]) (by kernel_rfl) (by simp) ?_
              refine AllReady.cons rfl (fun K hK => ?_) AllReady.nil
              · go_simp
                refine (EX.out _ GB03.out.pb).mono ?_
                rintro e wc ⟨rfl, hs2⟩
                exact leave_panic ⟨rfl, rfl, rfl⟩ (GB03.out.box.st hs2 (by omega)) j' c' (fun w' h => ⟨rfl, h w (step_bk GB03.out.bk hs2 (by omega)) (Nat.le_refl _)⟩)
          · go_simp
            refine (EX.out _ GB03.out.pb).mono ?_
            rintro e wc ⟨rfl, hs2⟩
            exact leave_panic ⟨rfl, rfl, rfl⟩ (GB03.out.box.st hs2 (by omega)) j' c' (fun w' h => ⟨rfl, h w (step_bk GB03.out.bk hs2 (by omega)) (Nat.le_refl _)⟩)
    · have hjd : decide (j < s.size) = false := by simpa using hjn
      have EQ4 := EQ3.out
      rw [if_neg hjn] at EQ4
      rw [hjd] at SKC
      subst EQ4
      clear EQ3 hjn
      go_wp2_with fail
      refine SKC.out.mono ?_
      rintro e w1 ⟨rfl, hp1, hs1⟩
      have S1 := Lib.hid hs1
      have B1 := Lib.hid (EH.out.box.st hs1 (by omega))
      have L1 := Lib.hid (EH.out.lv.step hs1 (by omega))
      have x0 := cell_of_row w1 w.heap.size 0 _ 23 (0, 0) B1.out.bl
      have x1 := cell_of_row w1 (w.heap.size + 1) 0 _ 3 (0, 0) B1.out.ba
      have x2 := cell_of_row w1 (w.heap.size + 1 + 1) 0 _ 26 (0, 0) B1.out.be
      have y0 := frozen_of_row w1 w.heap.size 0 _ 23 B1.out.bl
      have y1 := frozen_of_row w1 (w.heap.size + 1) 0 _ 3 B1.out.ba
      have y2 := frozen_of_row w1 (w.heap.size + 1 + 1) 0 _ 26 B1.out.be
      have L2 := Lib.hid ((L1.out.step (step_set (w := w1) (b := w.heap.size) 0 (.slice p acc.length c)) (by omega)).step ((step_set (b := w.heap.size + 1) 0 (.int .i64 0))) (by omega))
      have L3 := Lib.hid (L2.out.step (step_set (b := w.heap.size + 1 + 1) 0 (.int .i64 0)) (by omega))
      have K1 := Lib.hid (step_bk EH.out.bk S1.out (by omega))
      clear hp1 hs1 SKC
      go_wp2_with fail
      exact leave_ret ⟨rfl, rfl, rfl⟩ (B1.out.sets _ _ _) ⟨⟨p, c, rfl, (L3.out.bk (bk_alloc (BK.refl _) _)).row.keep fun k hk => ⟨rfl, by have := hk.1; show w.heap.size ≤ k; omega, hk.2⟩⟩, bk_alloc (bk_set (bk_set (bk_set K1.out _ _ (Nat.le_refl _)) _ _ (by show w.heap.size ≤ w.heap.size + 1; omega)) _ _ (by show w.heap.size ≤ w.heap.size + 1 + 1; omega)) _⟩
end Go.Proofs.Ytgiheheakgigkaa
