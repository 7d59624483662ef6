/- The law of the plays, walked. -/
import Derived.Test.YtclefcjojlkcnaaDoorAS
namespace Go.Proofs.YtclefcjojlkcnaaDoor.V
open Go.RowKit Go.Maps
open Go.Proofs.YtclefcjojlkcnaaDoor.G (RowA Step mem dom cN Cs EP Mono memO GL gl_push RowM AtD one_cN info26 cell_at bk_frozen bk_block RT)
set_option linter.unusedVariables false
set_option linter.unusedSimpArgs false
theorem rt_new {S : Nat → Prop} {w : World} (hS : ¬ S w.heap.size) : RT S (w.alloc (.cells #[.slice none 0 0, .slice none 0 0] 45)) w.heap.size [] [] := by
  have hb := heap_alloc_new w (.cells #[.slice none 0 0, .slice none 0 0] 45)
  exact ⟨none, 0, none, 0, ⟨cell_of_row _ _ 0 _ 45 (0, 0) hb, cell_of_row _ _ 1 _ 45 (0, 0) hb⟩, ⟨by rw [World.frozen?_alloc_new], by rw [World.frozen?_alloc_new]⟩, ⟨by simp, hS⟩, .inl ⟨rfl, fun _ => rfl⟩, .inl ⟨rfl, fun _ => rfl⟩⟩
theorem start_al (w0 w1 : World) (B tb mb : Nat) (h : TB B w1 tb mb 0 (.map [])) (hB : B = w0.heap.size) (hb : BK w0 w1) (ht : w0.heap.size ≤ tb) : Sep (fun b => b ≠ mb ∧ b ≠ w1.heap.size) B tb mb w1.heap.size w0 ∧ AL (fun b => b ≠ mb ∧ b ≠ w1.heap.size) B tb mb w1.heap.size 0 w0 (w1.alloc (.cells #[.slice none 0 0, .slice none 0 0] 45)) [] [] := by
  have h1 := h.lt
  have h2 := h.map.lt
  have h3 := h.lo
  refine ⟨⟨fun _ => Iff.rfl, h.ne.symm, by omega, by omega, by omega, bk_size hb, hB⟩, ⟨⟨_, h.keep (bk_alloc (BK.refl w1) _), MV.nil _ _⟩, rt_new (fun e => e.2 rfl)⟩, bk_alloc hb _⟩
set_option maxRecDepth 100000 in
set_option maxHeartbeats 8000000 in
theorem plays_law (acs : List Ac) (w : World) (ht : Tb w) (p : Option Addr) (c : Nat) (hp : RowC w p acs) : Calls Tryd.prog 8 #[.slice p acs.length c] w fun e w' => e = .returned (.bool true) ∧ BK w w' := by
  have HT := Lib.hid ht
  have HP := Lib.hid hp
  clear ht hp
  by_cases hl : (60 : Int) < (acs.length : Int)
  · have LV := Lib.hid (live_any w HT.out)
    go_enter Tryd.func8, Tryd.ntmps8
    go_wp2_with fail
    refine LV.out.mono ?_
    rintro e w1 ⟨rfl, hb1⟩
    have H1 := Lib.hid hb1
    clear hb1
    go_wp2_with fail
    go_ret
    exact ⟨rfl, H1.out⟩
  · have HL := Lib.hid hl
    have hd0 : decide ((60 : Int) < (acs.length : Int)) = false := decide_eq_false hl
    have NW := Lib.hid (new_any w.heap.size w (Nat.le_refl _))
    go_enter Tryd.func8, Tryd.ntmps8
    go_wp2_with fail
    refine NW.out.mono ?_
    rintro e w1 ⟨rfl, hT1, hb1⟩
    have ST := Lib.hid (start_al w w1 w.heap.size (w.heap.size + 1) w.heap.size hT1 rfl hb1 (by omega))
    clear hT1 hb1 hd0 hl
    generalize hS : (fun b => b ≠ w.heap.size ∧ b ≠ w1.heap.size) = S at ST
    clear hS
    go_wp2_with fail
    generalize w1.alloc (.cells #[.slice none 0 0, .slice none 0 0] 45) = w2 at *
    generalize w1.heap.size = rb at *
    have SP := Lib.hid ST.out.1
    generalize hmb : w.heap.size = mb at *
    generalize htb : mb + 1 = tb at *
    have HMB := Lib.hid hmb
    clear htb hmb
    go_loopw [5] (fun iv wr => ∃ (k : Nat) (ms : List Nn) (ids : List Int), k ≤ acs.length ∧ iv = .int .i64 (k : Int) ∧ ms.length ≤ k ∧ AL S mb tb mb rb k w wr ms ids) (fun iv _ => acs.length - (intOf iv).toNat)
    case atStart => exact ⟨0, [], [], Nat.zero_le _, rfl, Nat.le_refl _, ST.out.2⟩
    case round =>
      obtain ⟨k, ms, ids, hk, rfl, hm, hal⟩ := hrel
      have A0 := Lib.hid hal
      have HM := Lib.hid hm
      clear hal hm
      by_cases hlt : k < acs.length
      · have hki : (k : Int) < (acs.length : Int) := by omega
        have hd : decide (k < acs.length) = true := by simpa using hlt
        have ei : IntKind.i64.wrap ((k : Int) + 1) = (k : Int) + 1 := by have := HL.out; exact IntWalk.i64_in _ (by omega)
        have EI := Lib.hid ei
        have HLT := Lib.hid hlt
        obtain ⟨b, o, rfl, hbl, hall⟩ := HP.out (by omega)
        have HB0 := Lib.hid hbl
        obtain ⟨q, d, ⟨x0, x1, x2, x3, x4, x5, x6⟩, hra0, hq0, hv⟩ := hall k hlt
        have y0 := cell_bk x0 A0.out.2
        have y1 := cell_bk x1 A0.out.2
        have y2 := cell_bk x2 A0.out.2
        have y3 := cell_bk x3 A0.out.2
        have y4 := cell_bk x4 A0.out.2
        have y5 := cell_bk x5 A0.out.2
        have y6 := cell_bk x6 A0.out.2
        clear x0 x1 x2 x3 x4 x5 x6 hall hbl
        generalize acs[k] = a at *
        obtain ⟨ak, n, ai⟩ := a
        simp only [] at y0 y1 y2 y3 y4 y5 y6 hra0 hv
        have R0 := Lib.hid hra0
        have Q0 := Lib.hid hq0
        have V0 := Lib.hid hv
        clear hra0 hq0 hv
        have KA := Lib.hid (bk_alloc (BK.refl wr) (.cells #[.int .i64 n.op, .int .i64 n.wd, .int .u64 n.vl, .string n.nm, .slice q n.zs.length d] 26))
        have BX := Lib.hid (b5_new wr (.int .i64 n.op) (.int .i64 n.wd) (.int .u64 n.vl) (.string n.nm) (.slice q n.zs.length d) 26)
        have A3 := Lib.hid (A0.out.bk KA.out)
        have GB := Lib.hid (show wr.heap.size ≠ mb ∧ wr.heap.size ≠ rb from by have := A0.out.lt; omega)
        have ID := Lib.hid (cell_bk y6 KA.out)
        have KD := Lib.hid (cell_bk y0 KA.out)
        go_wp2_with fail
        generalize wr.alloc (.cells #[.int .i64 n.op, .int .i64 n.wd, .int .u64 n.vl, .string n.nm, .slice q n.zs.length d] 26) = w3 at *
        generalize wr.heap.size = gb at *
        clear y0 y1 y2 y3 y4 y5 y6 KA
        refine (few20 n.op n.wd n.vl n.nm q n.zs.length d w3).mono ?_
        rintro e w4 ⟨rfl, hb4⟩
        have A4 := Lib.hid (A3.out.bk hb4)
        have S4 := Lib.hid (show SB gb b (o + k * 7 + 6) n q d ai w4 from ⟨cell_bk BX.out.1 hb4, cell_bk BX.out.2.1 hb4, cell_bk BX.out.2.2.1 hb4, cell_bk BX.out.2.2.2.1 hb4, cell_bk BX.out.2.2.2.2 hb4, cell_bk ID.out hb4⟩)
        have D4 := Lib.hid (cell_bk KD.out hb4)
        clear hb4 A3 BX ID KD
        cases hf : few20B n.zs.length n.nm with
        | false =>
          have LV := Lib.hid (live_any w4 (HT.out.keep A4.out.2))
          go_wp2_with fail
          refine LV.out.mono ?_
          rintro e w9 ⟨rfl, hb9⟩
          have H9 := Lib.hid hb9
          clear hb9
          go_wp2_with fail
          go_ret
          exact ⟨rfl, bk_tr A4.out.2 H9.out⟩
        | true =>
          have OK := Lib.hid (few20_ok hf V0.out).1
          have ML := Lib.hid (show ms.length ≤ 1000 from by have := HL.out; have := HM.out; omega)
          have CK := Lib.hid (show k < maxLen from by have := HL.out; have := HLT.out; unfold maxLen; omega)
          have AO := Lib.hid A4.out.ok
          have D4' := D4.out
          clear hf D4
          by_cases h0 : ak = 0
          · subst h0
            have P25 := Lib.hid (fun wc (hb : BK w4 wc) => law25 (gb := gb) (b := b) (o := o + k * 7 + 6) (id := ai) SP.out OK.out HT.out R0.out CK.out GB.out HB0.out wc (A4.out.bk hb) (S4.out.step (Step.bk (F := fun _ => False) hb) (fun h => h) (fun h => h)))
            have P26 := Lib.hid (fun wc h hb => law26 (gb := gb) (b := b) (o := o + k * 7 + 6) (d := d) (id := ai) (B := mb) (tb := tb) (mb := mb) (c := k) SP.out OK.out R0.out Q0.out ML.out AO.out GB.out HB0.out wc h hb)
            go_wp2_with fail
            obtain ⟨s0, s1, s2, s3, s4, s5⟩ := S4.out
            go_region_held3 (fun w' => w'.cell? ⟨gb, 0, none⟩ = some (.int .i64 n.op) ∧ w'.cell? ⟨gb, 1, none⟩ = some (.int .i64 n.wd) ∧ w'.cell? ⟨gb, 2, none⟩ = some (.int .u64 n.vl) ∧ w'.cell? ⟨gb, 3, none⟩ = some (.string n.nm) ∧ w'.cell? ⟨gb, 4, none⟩ = some (.slice q n.zs.length d) ∧ w'.cell? ⟨b, o + k * 7 + 6, none⟩ = some (.int .i64 ai))
              (first | exact hS6 | exact hS5 | (go_keep; done))
              ((first | (go_at_call 26; refine (P26.out _ hq5 hS5).mono ?_; rintro e w6 ⟨rfl, hq6, hS6⟩) | (go_at_call 25; refine (P25.out _ (bk_drew (BK.refl _))).mono ?_; rintro e w5 ⟨rfl, hq5, hS5⟩)))
            all_goals clear s0 s1 s2 s3 s4 s5 hq5 hS5
            have A6 := Lib.hid hq6
            have S6 := Lib.hid (show SB gb b (o + k * 7 + 6) n q d ai w6 from hS6)
            clear hq6 hS6 P25 P26
            have M6 := Lib.hid (show (insI n ms).length ≤ k + 1 from by have := insI_len n ms; have := HM.out; omega)
            generalize insI n ms = ms9 at *
            generalize insJ n ai ms ids = ids9 at *
            have ML9 := Lib.hid (show ms9.length ≤ 1000 from by have := HL.out; have := M6.out; have := HLT.out; omega)
            have AO9 := Lib.hid A6.out.ok
            obtain ⟨c0, c1, c2, c3, c4, c5⟩ := S6.out
            go_wp2_with fail
            refine (law29 OK.out HT.out R0.out w6 A6.out).mono ?_
            rintro e w7 ⟨rfl, hb7⟩
            have A7 := Lib.hid (A6.out.bk hb7)
            have c0' := cell_bk c0 hb7
            have c1' := cell_bk c1 hb7
            have c2' := cell_bk c2 hb7
            have c3' := cell_bk c3 hb7
            have c4' := cell_bk c4 hb7
            clear hb7 c0 c1 c2 c3 c4 c5
            go_wp2_with fail
            refine (law30 OK.out ML9.out AO9.out R0.out w7 A7.out).mono ?_
            rintro e w8 ⟨rfl, hb8⟩
            have A8 := Lib.hid (A7.out.bk hb8)
            clear hb8 c0' c1' c2' c3' c4'
            generalize getI n ms9 ids9 = gi
            generalize isA n ms9 = ia
            go_wp2_with fail
            obtain ⟨p8, cap8, p8', cap8', ⟨t0, t1⟩, -, -, hM8, hI8⟩ := A8.out.1.2
            have T8 := Lib.hid t0
            have L31 := Lib.hid (fun wc (hb : BK w8 wc) => len31 S mb tb mb (k + 1) ms9 ids9 wc (A8.out.bk hb).1.1)
            have N33 := Lib.hid (fun wc (hb : BK w8 wc) => (law33 ML9.out wc (A8.out.bk hb)).mono (fun e w' (h : ∃ q cap, _ ∧ _ ∧ _) => (by
              obtain ⟨q, cap, h1, h2, h3⟩ := h
              exact ⟨q, cap, h1, RowM.rowN' h2, bk_tr hb h3⟩ : ∃ q cap, e = .returned (.slice q ms9.length cap) ∧ RowN w' q ms9 ∧ BK w8 w')))
            have S32 := Lib.hid (fun q cap wc (hb : BK w8 wc) (hr : RowN wc q ms9) => (same32 ms9 ML9.out AO9.out.2 wc q p8 cap cap8 hr (hM8.rowN.keep hb)).mono (fun e w' (h : _ ∧ _) => And.intro h.1 (bk_tr hb h.2)))
            clear t1 hM8 hI8
            go_region_held3 (fun w' => w'.cell? ⟨rb, 0, none⟩ = some (.slice p8 ms9.length cap8))
              (first | exact cell_bk T8.out (by assumption) | exact cell_bk T8.out (bk_drew (BK.refl _)) | (go_keep; done))
              ((first | (go_at_call 32; refine (S32.out _ _ _ hb9 hr9).mono ?_; rintro e w10 ⟨rfl, hb10⟩) | (go_at_call 33; refine (N33.out _ (bk_drew (BK.refl _))).mono ?_; rintro e w9 ⟨q9, cap9, rfl, hr9, hb9⟩) | (go_at_call 31; refine (L31.out _ (bk_drew (BK.refl _))).mono ?_; rintro e w9x ⟨rfl, rfl⟩)))
            all_goals have K10 := Lib.hid hb10
            all_goals clear hb10 hr9 hb9 t0
            all_goals have ei := EI.out
            all_goals go_wp2_with fail
            all_goals go_roundw
            case rel => exact ⟨k + 1, ms9, ids9, HLT.out, by go_num, M6.out, A8.out.bk K10.out⟩
            case measure => have := HLT.out; simp [intOf]; omega
          · by_cases h1 : ak = 1
            · subst h1
              have P27 := Lib.hid (fun wc (hb : BK w4 wc) => law27 (gb := gb) (b := b) (o := o + k * 7 + 6) (id := ai) SP.out OK.out HT.out R0.out GB.out HB0.out wc (A4.out.bk hb) (S4.out.step (Step.bk (F := fun _ => False) hb) (fun h => h) (fun h => h)))
              have P28 := Lib.hid (fun wc h hb => law28 (gb := gb) (b := b) (o := o + k * 7 + 6) (d := d) (id := ai) (B := mb) (tb := tb) (mb := mb) (c := k) SP.out OK.out R0.out ML.out AO.out GB.out HB0.out wc h hb)
              go_wp2_with fail
              obtain ⟨s0, s1, s2, s3, s4, s5⟩ := S4.out
              go_region_held3 (fun w' => w'.cell? ⟨gb, 0, none⟩ = some (.int .i64 n.op) ∧ w'.cell? ⟨gb, 1, none⟩ = some (.int .i64 n.wd) ∧ w'.cell? ⟨gb, 2, none⟩ = some (.int .u64 n.vl) ∧ w'.cell? ⟨gb, 3, none⟩ = some (.string n.nm) ∧ w'.cell? ⟨gb, 4, none⟩ = some (.slice q n.zs.length d) ∧ w'.cell? ⟨b, o + k * 7 + 6, none⟩ = some (.int .i64 ai))
                (first | exact hS6 | exact hS5 | (go_keep; done))
                ((first | (go_at_call 28; refine (P28.out _ hq5 hS5).mono ?_; rintro e w6 ⟨rfl, hq6, hS6⟩) | (go_at_call 27; refine (P27.out _ (bk_drew (BK.refl _))).mono ?_; rintro e w5 ⟨rfl, hq5, hS5⟩)))
              all_goals clear s0 s1 s2 s3 s4 s5 hq5 hS5
              have A6 := Lib.hid hq6.more
              have S6 := Lib.hid (show SB gb b (o + k * 7 + 6) n q d ai w6 from hS6)
              clear hq6 hS6 P27 P28
              have M6 := Lib.hid (show (delI n ms).length ≤ k + 1 from by have := delI_len n ms; have := HM.out; omega)
              generalize delI n ms = ms9 at *
              generalize delJ n ms ids = ids9 at *
              have ML9 := Lib.hid (show ms9.length ≤ 1000 from by have := HL.out; have := M6.out; have := HLT.out; omega)
              have AO9 := Lib.hid A6.out.ok
              obtain ⟨c0, c1, c2, c3, c4, c5⟩ := S6.out
              go_wp2_with fail
              refine (law29 OK.out HT.out R0.out w6 A6.out).mono ?_
              rintro e w7 ⟨rfl, hb7⟩
              have A7 := Lib.hid (A6.out.bk hb7)
              have c0' := cell_bk c0 hb7
              have c1' := cell_bk c1 hb7
              have c2' := cell_bk c2 hb7
              have c3' := cell_bk c3 hb7
              have c4' := cell_bk c4 hb7
              clear hb7 c0 c1 c2 c3 c4 c5
              go_wp2_with fail
              refine (law30 OK.out ML9.out AO9.out R0.out w7 A7.out).mono ?_
              rintro e w8 ⟨rfl, hb8⟩
              have A8 := Lib.hid (A7.out.bk hb8)
              clear hb8 c0' c1' c2' c3' c4'
              generalize getI n ms9 ids9 = gi
              generalize isA n ms9 = ia
              go_wp2_with fail
              obtain ⟨p8, cap8, p8', cap8', ⟨t0, t1⟩, -, -, hM8, hI8⟩ := A8.out.1.2
              have T8 := Lib.hid t0
              have L31 := Lib.hid (fun wc (hb : BK w8 wc) => len31 S mb tb mb (k + 1) ms9 ids9 wc (A8.out.bk hb).1.1)
              have N33 := Lib.hid (fun wc (hb : BK w8 wc) => (law33 ML9.out wc (A8.out.bk hb)).mono (fun e w' (h : ∃ q cap, _ ∧ _ ∧ _) => (by
                obtain ⟨q, cap, h1, h2, h3⟩ := h
                exact ⟨q, cap, h1, RowM.rowN' h2, bk_tr hb h3⟩ : ∃ q cap, e = .returned (.slice q ms9.length cap) ∧ RowN w' q ms9 ∧ BK w8 w')))
              have S32 := Lib.hid (fun q cap wc (hb : BK w8 wc) (hr : RowN wc q ms9) => (same32 ms9 ML9.out AO9.out.2 wc q p8 cap cap8 hr (hM8.rowN.keep hb)).mono (fun e w' (h : _ ∧ _) => And.intro h.1 (bk_tr hb h.2)))
              clear t1 hM8 hI8
              go_region_held3 (fun w' => w'.cell? ⟨rb, 0, none⟩ = some (.slice p8 ms9.length cap8))
                (first | exact cell_bk T8.out (by assumption) | exact cell_bk T8.out (bk_drew (BK.refl _)) | (go_keep; done))
                ((first | (go_at_call 32; refine (S32.out _ _ _ hb9 hr9).mono ?_; rintro e w10 ⟨rfl, hb10⟩) | (go_at_call 33; refine (N33.out _ (bk_drew (BK.refl _))).mono ?_; rintro e w9 ⟨q9, cap9, rfl, hr9, hb9⟩) | (go_at_call 31; refine (L31.out _ (bk_drew (BK.refl _))).mono ?_; rintro e w9x ⟨rfl, rfl⟩)))
              all_goals have K10 := Lib.hid hb10
              all_goals clear hb10 hr9 hb9 t0
              all_goals have ei := EI.out
              all_goals go_wp2_with fail
              all_goals go_roundw
              case rel => exact ⟨k + 1, ms9, ids9, HLT.out, by go_num, M6.out, A8.out.bk K10.out⟩
              case measure => have := HLT.out; simp [intOf]; omega
            · have A6 := Lib.hid A4.out.more
              have S6 := Lib.hid S4.out
              obtain ⟨w6, hw6⟩ : ∃ x, x = w4 := ⟨_, rfl⟩
              subst hw6
              have M6 := Lib.hid (show (ms).length ≤ k + 1 from by have := HM.out; omega)
              generalize ms = ms9 at *
              generalize ids = ids9 at *
              have ML9 := Lib.hid (show ms9.length ≤ 1000 from by have := HL.out; have := M6.out; have := HLT.out; omega)
              have AO9 := Lib.hid A6.out.ok
              obtain ⟨c0, c1, c2, c3, c4, c5⟩ := S6.out
              go_wp2_with fail
              refine (law29 OK.out HT.out R0.out w6 A6.out).mono ?_
              rintro e w7 ⟨rfl, hb7⟩
              have A7 := Lib.hid (A6.out.bk hb7)
              have c0' := cell_bk c0 hb7
              have c1' := cell_bk c1 hb7
              have c2' := cell_bk c2 hb7
              have c3' := cell_bk c3 hb7
              have c4' := cell_bk c4 hb7
              clear hb7 c0 c1 c2 c3 c4 c5
              go_wp2_with fail
              refine (law30 OK.out ML9.out AO9.out R0.out w7 A7.out).mono ?_
              rintro e w8 ⟨rfl, hb8⟩
              have A8 := Lib.hid (A7.out.bk hb8)
              clear hb8 c0' c1' c2' c3' c4'
              generalize getI n ms9 ids9 = gi
              generalize isA n ms9 = ia
              go_wp2_with fail
              obtain ⟨p8, cap8, p8', cap8', ⟨t0, t1⟩, -, -, hM8, hI8⟩ := A8.out.1.2
              have T8 := Lib.hid t0
              have L31 := Lib.hid (fun wc (hb : BK w8 wc) => len31 S mb tb mb (k + 1) ms9 ids9 wc (A8.out.bk hb).1.1)
              have N33 := Lib.hid (fun wc (hb : BK w8 wc) => (law33 ML9.out wc (A8.out.bk hb)).mono (fun e w' (h : ∃ q cap, _ ∧ _ ∧ _) => (by
                obtain ⟨q, cap, h1, h2, h3⟩ := h
                exact ⟨q, cap, h1, RowM.rowN' h2, bk_tr hb h3⟩ : ∃ q cap, e = .returned (.slice q ms9.length cap) ∧ RowN w' q ms9 ∧ BK w8 w')))
              have S32 := Lib.hid (fun q cap wc (hb : BK w8 wc) (hr : RowN wc q ms9) => (same32 ms9 ML9.out AO9.out.2 wc q p8 cap cap8 hr (hM8.rowN.keep hb)).mono (fun e w' (h : _ ∧ _) => And.intro h.1 (bk_tr hb h.2)))
              clear t1 hM8 hI8
              go_region_held3 (fun w' => w'.cell? ⟨rb, 0, none⟩ = some (.slice p8 ms9.length cap8))
                (first | exact cell_bk T8.out (by assumption) | exact cell_bk T8.out (bk_drew (BK.refl _)) | (go_keep; done))
                ((first | (go_at_call 32; refine (S32.out _ _ _ hb9 hr9).mono ?_; rintro e w10 ⟨rfl, hb10⟩) | (go_at_call 33; refine (N33.out _ (bk_drew (BK.refl _))).mono ?_; rintro e w9 ⟨q9, cap9, rfl, hr9, hb9⟩) | (go_at_call 31; refine (L31.out _ (bk_drew (BK.refl _))).mono ?_; rintro e w9x ⟨rfl, rfl⟩)))
              all_goals have K10 := Lib.hid hb10
              all_goals clear hb10 hr9 hb9 t0
              all_goals have ei := EI.out
              all_goals go_wp2_with fail
              all_goals go_roundw
              case rel => exact ⟨k + 1, ms9, ids9, HLT.out, by go_num, M6.out, A8.out.bk K10.out⟩
              case measure => have := HLT.out; simp [intOf]; omega
      · have hd : decide (k < acs.length) = false := by simpa using hlt
        have hni : ¬ (k : Int) < (acs.length : Int) := by omega
        have LV := Lib.hid (live_any wr (HT.out.keep A0.out.2))
        clear hlt hk
        go_wp2_with fail
        refine LV.out.mono ?_
        rintro e w9 ⟨rfl, hb9⟩
        have H9 := Lib.hid hb9
        clear hb9
        go_wp2_with fail
        go_ret
        exact ⟨rfl, bk_tr A0.out.2 H9.out⟩
end Go.Proofs.YtclefcjojlkcnaaDoor.V
