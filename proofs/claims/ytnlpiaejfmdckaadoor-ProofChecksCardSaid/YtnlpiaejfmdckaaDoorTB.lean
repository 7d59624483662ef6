/- The program's Same. -/
import Derived.Test.YtnlpiaejfmdckaaDoorTA
import Derived.Test.YtnlpiaejfmdckaaDoorTS
namespace Go.Proofs.YtnlpiaejfmdckaaDoor
open Go.RowKit
set_option linter.unusedVariables false
set_option linter.unusedSimpArgs false
set_option maxRecDepth 100000 in
set_option maxHeartbeats 4000000 in
theorem equal57 (xs ys : List Int) (hl : xs.length ≤ 9223372036854775807) (w : World) (p q : Option Addr) (c d : Nat) (hp : RowI (mem 0 w) w p c xs) (hq : RowI (mem 0 w) w q d ys) : Calls Tryd.prog 57 #[.slice p xs.length c, .slice q ys.length d] w fun e w' => e = .returned (.bool (eqI xs ys)) ∧ BK w w' := by
  by_cases hn : xs.length = ys.length
  · have HN := Lib.hid hn
    rw [← hn]
    have HP := Lib.hid hp
    have HQ := Lib.hid hq
    have HL := Lib.hid hl
    clear hp hq hl hn
    generalize hr : eqI xs ys = r
    have HR := Lib.hid hr
    clear hr
    go_enter Tryd.func57, Tryd.ntmps57
    go_wp2_with fail
    go_loopw [13] (fun iv wr => ∃ k : Nat, k ≤ xs.length ∧ iv = .int .i64 (k : Int) ∧ eqI (xs.drop k) (ys.drop k) = r ∧ BK w wr) (fun iv _ => xs.length - (intOf iv).toNat)
    case atStart => exact ⟨0, Nat.zero_le _, rfl, HR.out, BK.refl _⟩
    case round =>
      obtain ⟨k, hk, rfl, heq, hb⟩ := hrel
      have KB := Lib.hid hb
      have EQ := Lib.hid heq
      clear hb heq
      by_cases e : k = xs.length
      · have hd : decide (k < xs.length) = false := by simp [e]
        have EQ2 := EQ.out
        rw [List.drop_of_length_le (by omega), List.drop_of_length_le (by rw [← HN.out]; omega)] at EQ2
        have EQ3 : r = true := EQ2.symm
        subst EQ3
        subst e
        go_wp2_with fail
        go_ret
        exact ⟨rfl, KB.out⟩
      · have hlt : k < xs.length := by omega
        have hlu : k < ys.length := by rw [← HN.out]; exact hlt
        have hd : decide (k < xs.length) = true := by simpa using hlt
        obtain ⟨b3, o3, rfl, -, y0⟩ := (HP.out.bk KB.out (Nat.le_refl _)).get hlt
        obtain ⟨b4, o4, rfl, -, z0⟩ := (HQ.out.bk KB.out (Nat.le_refl _)).get hlu
        have EQ2 := EQ.out
        rw [List.drop_eq_getElem_cons hlt, List.drop_eq_getElem_cons hlu, eqI_cons] at EQ2
        have EQ3 := Lib.hid EQ2
        have ei : IntKind.i64.wrap ((k : Int) + 1) = (k : Int) + 1 := by have := HL.out; exact IntWalk.i64_in _ (by omega)
        have hki : (k : Int) < (xs.length : Int) := by omega
        have HLT := Lib.hid hlt
        clear e EQ2
        generalize xs[k] = a at *
        generalize ys[k] = b at *
        by_cases hab : a = b
        · have EQ4 := Lib.hid (show eqI (xs.drop (k + 1)) (ys.drop (k + 1)) = r from by have := EQ3.out; rwa [if_pos hab] at this)
          subst hab
          go_wp2_with fail
          go_quiet (fail)
          go_wp2_with fail
          go_roundw
          case rel => exact ⟨k + 1, by have := HLT.out; omega, by go_num, EQ4.out, bk_drewN KB.out _⟩
          case measure => have := HLT.out; simp [intOf]; omega
        · have EQ4 : r = false := by have := EQ3.out; rw [if_neg hab] at this; exact this.symm
          subst EQ4
          have hne : (a != b) = true := by simpa using hab
          clear hab
          go_wp2_with fail
          go_quiet (fail)
          go_wp2_with fail
          go_ret
          exact ⟨rfl, bk_drewN KB.out _⟩
  · rw [eqI_ne hn]
    have hne : ((xs.length : Int) != (ys.length : Int)) = true := nn_cast hn
    clear hp hq hl
    generalize xs.length = n at *
    generalize ys.length = m at *
    go_enter Tryd.func57, Tryd.ntmps57
    go_wp2_with fail
    go_ret
    exact ⟨rfl, BK.refl _⟩
set_option maxRecDepth 100000 in
set_option maxHeartbeats 8000000 in
theorem step41 (s t : S) (hok : okQ s) (q q' : Pt) (w : World) (hp : Ps (mem 0 w) w s q) (hq : Ps (mem 0 w) w t q') : Calls Tryd.prog 41 #[.agg (cS s q), .agg (cS t q')] w fun e w' => e = .returned (.bool (samS s t)) ∧ BK w w' := by
  obtain ⟨kk3, rf3, ru3, sb3, ⟨opa3, wda3, vla3, nma3, tsa3⟩, ⟨opb3, wdb3, vlb3, nmb3, tsb3⟩⟩ := s
  obtain ⟨kk4, rf4, ru4, sb4, ⟨opa4, wda4, vla4, nma4, tsa4⟩, ⟨opb4, wdb4, vlb4, nmb4, tsb4⟩⟩ := t
  obtain ⟨p31, c31, p32, c32, p33, c33, p34, c34⟩ := q
  obtain ⟨p41, c41, p42, c42, p43, c43, p44, c44⟩ := q'
  show Calls Tryd.prog 41 #[.agg #[.int .i64 kk3, .slice p31 rf3.length c31, .int .i64 ru3, .slice p32 sb3.length c32, .int .i64 opa3, .int .i64 wda3, .int .u64 vla3, .string nma3, .slice p33 tsa3.length c33, .int .i64 opb3, .int .i64 wdb3, .int .u64 vlb3, .string nmb3, .slice p34 tsb3.length c34], .agg #[.int .i64 kk4, .slice p41 rf4.length c41, .int .i64 ru4, .slice p42 sb4.length c42, .int .i64 opa4, .int .i64 wda4, .int .u64 vla4, .string nma4, .slice p43 tsa4.length c43, .int .i64 opb4, .int .i64 wdb4, .int .u64 vlb4, .string nmb4, .slice p44 tsb4.length c44]] w _
  obtain ⟨ok1, ok2, ok3, ok4, ok5⟩ := hok
  obtain ⟨h1, h2', h3'⟩ := two_boxes w #[.int .i64 kk3, .slice p31 rf3.length c31, .int .i64 ru3, .slice p32 sb3.length c32, .int .i64 opa3, .int .i64 wda3, .int .u64 vla3, .string nma3, .slice p33 tsa3.length c33, .int .i64 opb3, .int .i64 wdb3, .int .u64 vlb3, .string nmb3, .slice p34 tsb3.length c34] #[.int .i64 kk4, .slice p41 rf4.length c41, .int .i64 ru4, .slice p42 sb4.length c42, .int .i64 opa4, .int .i64 wda4, .int .u64 vla4, .string nma4, .slice p43 tsa4.length c43, .int .i64 opb4, .int .i64 wdb4, .int .u64 vlb4, .string nmb4, .slice p44 tsb4.length c44] 44 44
  have KK := Lib.hid h1
  have KD := Lib.hid (fun wc (hb : BK ((w.alloc (.cells #[.int .i64 kk3, .slice p31 rf3.length c31, .int .i64 ru3, .slice p32 sb3.length c32, .int .i64 opa3, .int .i64 wda3, .int .u64 vla3, .string nma3, .slice p33 tsa3.length c33, .int .i64 opb3, .int .i64 wdb3, .int .u64 vlb3, .string nmb3, .slice p34 tsb3.length c34] 44)).alloc (.cells #[.int .i64 kk4, .slice p41 rf4.length c41, .int .i64 ru4, .slice p42 sb4.length c42, .int .i64 opa4, .int .i64 wda4, .int .u64 vla4, .string nma4, .slice p43 tsa4.length c43, .int .i64 opb4, .int .i64 wdb4, .int .u64 vlb4, .string nmb4, .slice p44 tsb4.length c44] 44)) wc) => And.intro ((bk_block hb (Array.getElem?_eq_some_iff.1 h2').1).trans h2') ((bk_block hb (Array.getElem?_eq_some_iff.1 h3').1).trans h3'))
  have x3_0 := cell_of_row _ w.heap.size 0 _ 44 (0, 0) h2'
  have x4_0 := cell_of_row _ (w.heap.size + 1) 0 _ 44 (0, 0) h3'
  have x3_1 := cell_of_row _ w.heap.size 1 _ 44 (0, 0) h2'
  have x4_1 := cell_of_row _ (w.heap.size + 1) 1 _ 44 (0, 0) h3'
  have x3_2 := cell_of_row _ w.heap.size 2 _ 44 (0, 0) h2'
  have x4_2 := cell_of_row _ (w.heap.size + 1) 2 _ 44 (0, 0) h3'
  have x3_3 := cell_of_row _ w.heap.size 3 _ 44 (0, 0) h2'
  have x4_3 := cell_of_row _ (w.heap.size + 1) 3 _ 44 (0, 0) h3'
  have x3_4 := cell_of_row _ w.heap.size 4 _ 44 (0, 0) h2'
  have x4_4 := cell_of_row _ (w.heap.size + 1) 4 _ 44 (0, 0) h3'
  have x3_5 := cell_of_row _ w.heap.size 5 _ 44 (0, 0) h2'
  have x4_5 := cell_of_row _ (w.heap.size + 1) 5 _ 44 (0, 0) h3'
  have x3_6 := cell_of_row _ w.heap.size 6 _ 44 (0, 0) h2'
  have x4_6 := cell_of_row _ (w.heap.size + 1) 6 _ 44 (0, 0) h3'
  have x3_7 := cell_of_row _ w.heap.size 7 _ 44 (0, 0) h2'
  have x4_7 := cell_of_row _ (w.heap.size + 1) 7 _ 44 (0, 0) h3'
  have x3_8 := cell_of_row _ w.heap.size 8 _ 44 (0, 0) h2'
  have x4_8 := cell_of_row _ (w.heap.size + 1) 8 _ 44 (0, 0) h3'
  have x3_9 := cell_of_row _ w.heap.size 9 _ 44 (0, 0) h2'
  have x4_9 := cell_of_row _ (w.heap.size + 1) 9 _ 44 (0, 0) h3'
  have x3_10 := cell_of_row _ w.heap.size 10 _ 44 (0, 0) h2'
  have x4_10 := cell_of_row _ (w.heap.size + 1) 10 _ 44 (0, 0) h3'
  have x3_11 := cell_of_row _ w.heap.size 11 _ 44 (0, 0) h2'
  have x4_11 := cell_of_row _ (w.heap.size + 1) 11 _ 44 (0, 0) h3'
  have x3_12 := cell_of_row _ w.heap.size 12 _ 44 (0, 0) h2'
  have x4_12 := cell_of_row _ (w.heap.size + 1) 12 _ 44 (0, 0) h3'
  have x3_13 := cell_of_row _ w.heap.size 13 _ 44 (0, 0) h2'
  have x4_13 := cell_of_row _ (w.heap.size + 1) 13 _ 44 (0, 0) h3'
  have E57 := Lib.hid (fun wc (hb : BK ((w.alloc (.cells #[.int .i64 kk3, .slice p31 rf3.length c31, .int .i64 ru3, .slice p32 sb3.length c32, .int .i64 opa3, .int .i64 wda3, .int .u64 vla3, .string nma3, .slice p33 tsa3.length c33, .int .i64 opb3, .int .i64 wdb3, .int .u64 vlb3, .string nmb3, .slice p34 tsb3.length c34] 44)).alloc (.cells #[.int .i64 kk4, .slice p41 rf4.length c41, .int .i64 ru4, .slice p42 sb4.length c42, .int .i64 opa4, .int .i64 wda4, .int .u64 vla4, .string nma4, .slice p43 tsa4.length c43, .int .i64 opb4, .int .i64 wdb4, .int .u64 vlb4, .string nmb4, .slice p44 tsb4.length c44] 44)) wc) => (equal57 rf3 rf4 (Nat.le_trans ok1 (by decide)) wc p31 p41 c31 c41 ((hp.rf.bk h1 (Nat.le_refl _)).bk hb (Nat.le_refl _)) ((hq.rf.bk h1 (Nat.le_refl _)).bk hb (Nat.le_refl _))).mono (fun e w' (h : _ ∧ _) => And.intro h.1 (bk_tr hb h.2)))
  have E58 := Lib.hid (fun wc (hb : BK ((w.alloc (.cells #[.int .i64 kk3, .slice p31 rf3.length c31, .int .i64 ru3, .slice p32 sb3.length c32, .int .i64 opa3, .int .i64 wda3, .int .u64 vla3, .string nma3, .slice p33 tsa3.length c33, .int .i64 opb3, .int .i64 wdb3, .int .u64 vlb3, .string nmb3, .slice p34 tsb3.length c34] 44)).alloc (.cells #[.int .i64 kk4, .slice p41 rf4.length c41, .int .i64 ru4, .slice p42 sb4.length c42, .int .i64 opa4, .int .i64 wda4, .int .u64 vla4, .string nma4, .slice p43 tsa4.length c43, .int .i64 opb4, .int .i64 wdb4, .int .u64 vlb4, .string nmb4, .slice p44 tsb4.length c44] 44)) wc) => (eqf58 sb3 sb4 ok2 ok3 wc p32 p42 c32 c42 ((hp.sb.bk h1 (Nat.le_refl _)).bk hb (Nat.le_refl _)) ((hq.sb.bk h1 (Nat.le_refl _)).bk hb (Nat.le_refl _))).mono (fun e w' (h : _ ∧ _) => And.intro h.1 (bk_tr hb h.2)))
  have E60 := Lib.hid (fun wc (hb : BK ((w.alloc (.cells #[.int .i64 kk3, .slice p31 rf3.length c31, .int .i64 ru3, .slice p32 sb3.length c32, .int .i64 opa3, .int .i64 wda3, .int .u64 vla3, .string nma3, .slice p33 tsa3.length c33, .int .i64 opb3, .int .i64 wdb3, .int .u64 vlb3, .string nmb3, .slice p34 tsb3.length c34] 44)).alloc (.cells #[.int .i64 kk4, .slice p41 rf4.length c41, .int .i64 ru4, .slice p42 sb4.length c42, .int .i64 opa4, .int .i64 wda4, .int .u64 vla4, .string nma4, .slice p43 tsa4.length c43, .int .i64 opb4, .int .i64 wdb4, .int .u64 vlb4, .string nmb4, .slice p44 tsb4.length c44] 44)) wc) => (same60 _ ok4 (.mk opa4 wda4 vla4 nma4 tsa4) wc p33 p43 c33 c43 ((hp.a.bk h1 (Nat.le_refl _)).bk hb (Nat.le_refl _)) ((hq.a.bk h1 (Nat.le_refl _)).bk hb (Nat.le_refl _))).mono (fun e w' (h : _ ∧ _) => And.intro h.1 (bk_tr hb h.2)))
  have F60 := Lib.hid (fun wc (hb : BK ((w.alloc (.cells #[.int .i64 kk3, .slice p31 rf3.length c31, .int .i64 ru3, .slice p32 sb3.length c32, .int .i64 opa3, .int .i64 wda3, .int .u64 vla3, .string nma3, .slice p33 tsa3.length c33, .int .i64 opb3, .int .i64 wdb3, .int .u64 vlb3, .string nmb3, .slice p34 tsb3.length c34] 44)).alloc (.cells #[.int .i64 kk4, .slice p41 rf4.length c41, .int .i64 ru4, .slice p42 sb4.length c42, .int .i64 opa4, .int .i64 wda4, .int .u64 vla4, .string nma4, .slice p43 tsa4.length c43, .int .i64 opb4, .int .i64 wdb4, .int .u64 vlb4, .string nmb4, .slice p44 tsb4.length c44] 44)) wc) => (same60 _ ok5 (.mk opb4 wdb4 vlb4 nmb4 tsb4) wc p34 p44 c34 c44 ((hp.b.bk h1 (Nat.le_refl _)).bk hb (Nat.le_refl _)) ((hq.b.bk h1 (Nat.le_refl _)).bk hb (Nat.le_refl _))).mono (fun e w' (h : _ ∧ _) => And.intro h.1 (bk_tr hb h.2)))
  simp only [T.op, T.wd, T.vl, T.nm, T.ts] at E60 F60
  have SM0 : (if kk3 = kk4 then if eqI rf3 rf4 = true then if ru3 = ru4 then if subB sb3 sb4 = true then if sameT (.mk opa3 wda3 vla3 nma3 tsa3) (.mk opa4 wda4 vla4 nma4 tsa4) = true then sameT (.mk opb3 wdb3 vlb3 nmb3 tsb3) (.mk opb4 wdb4 vlb4 nmb4 tsb4) else false else false else false else false else false) = samS ⟨kk3, rf3, ru3, sb3, .mk opa3 wda3 vla3 nma3 tsa3, .mk opb3 wdb3 vlb3 nmb3 tsb3⟩ ⟨kk4, rf4, ru4, sb4, .mk opa4 wda4 vla4 nma4 tsa4, .mk opb4 wdb4 vlb4 nmb4 tsb4⟩ := rfl
  have SM := Lib.hid SM0
  clear SM0 hp hq h1 h2' h3' ok1 ok2 ok3 ok4 ok5
  generalize samS ⟨kk3, rf3, ru3, sb3, .mk opa3 wda3 vla3 nma3 tsa3, .mk opb3 wdb3 vlb3 nmb3 tsb3⟩ ⟨kk4, rf4, ru4, sb4, .mk opa4 wda4 vla4 nma4 tsa4, .mk opb4 wdb4 vlb4 nmb4 tsb4⟩ = r at *
  generalize eqI rf3 rf4 = bI at *
  generalize subB sb3 sb4 = bU at *
  generalize sameT (.mk opa3 wda3 vla3 nma3 tsa3) (.mk opa4 wda4 vla4 nma4 tsa4) = bA at *
  generalize sameT (.mk opb3 wdb3 vlb3 nmb3 tsb3) (.mk opb4 wdb4 vlb4 nmb4 tsb4) = bB at *
  by_cases hk : kk3 = kk4
  · subst hk
    by_cases hru : ru3 = ru4
    · subst hru
      go_enter Tryd.func41, Tryd.ntmps41
      go_wp2_with fail
      generalize ((w.alloc (.cells #[.int .i64 kk3, .slice p31 rf3.length c31, .int .i64 ru3, .slice p32 sb3.length c32, .int .i64 opa3, .int .i64 wda3, .int .u64 vla3, .string nma3, .slice p33 tsa3.length c33, .int .i64 opb3, .int .i64 wdb3, .int .u64 vlb3, .string nmb3, .slice p34 tsb3.length c34] 44)).alloc (.cells #[.int .i64 kk3, .slice p41 rf4.length c41, .int .i64 ru3, .slice p42 sb4.length c42, .int .i64 opa4, .int .i64 wda4, .int .u64 vla4, .string nma4, .slice p43 tsa4.length c43, .int .i64 opb4, .int .i64 wdb4, .int .u64 vlb4, .string nmb4, .slice p44 tsb4.length c44] 44)) = w2 at *
      refine (E57.out _ ?_).mono ?_
      · first | exact BK.refl _ | exact HB.out
      rintro e w3 ⟨rfl, hb⟩
      clear x3_0 x3_1 x3_2 x3_3 x3_4 x3_5 x3_6 x3_7 x3_8 x3_9 x3_10 x3_11 x3_12 x3_13 x4_0 x4_1 x4_2 x4_3 x4_4 x4_5 x4_6 x4_7 x4_8 x4_9 x4_10 x4_11 x4_12 x4_13
      have HB := Lib.hid hb
      clear hb
      have KN := Lib.hid (bk_tr KK.out HB.out)
      obtain ⟨m3, m4⟩ := KD.out _ HB.out
      have x3_0 := cell_of_row w3 w.heap.size 0 _ 44 (0, 0) m3
      have x4_0 := cell_of_row w3 (w.heap.size + 1) 0 _ 44 (0, 0) m4
      have x3_1 := cell_of_row w3 w.heap.size 1 _ 44 (0, 0) m3
      have x4_1 := cell_of_row w3 (w.heap.size + 1) 1 _ 44 (0, 0) m4
      have x3_2 := cell_of_row w3 w.heap.size 2 _ 44 (0, 0) m3
      have x4_2 := cell_of_row w3 (w.heap.size + 1) 2 _ 44 (0, 0) m4
      have x3_3 := cell_of_row w3 w.heap.size 3 _ 44 (0, 0) m3
      have x4_3 := cell_of_row w3 (w.heap.size + 1) 3 _ 44 (0, 0) m4
      have x3_4 := cell_of_row w3 w.heap.size 4 _ 44 (0, 0) m3
      have x4_4 := cell_of_row w3 (w.heap.size + 1) 4 _ 44 (0, 0) m4
      have x3_5 := cell_of_row w3 w.heap.size 5 _ 44 (0, 0) m3
      have x4_5 := cell_of_row w3 (w.heap.size + 1) 5 _ 44 (0, 0) m4
      have x3_6 := cell_of_row w3 w.heap.size 6 _ 44 (0, 0) m3
      have x4_6 := cell_of_row w3 (w.heap.size + 1) 6 _ 44 (0, 0) m4
      have x3_7 := cell_of_row w3 w.heap.size 7 _ 44 (0, 0) m3
      have x4_7 := cell_of_row w3 (w.heap.size + 1) 7 _ 44 (0, 0) m4
      have x3_8 := cell_of_row w3 w.heap.size 8 _ 44 (0, 0) m3
      have x4_8 := cell_of_row w3 (w.heap.size + 1) 8 _ 44 (0, 0) m4
      have x3_9 := cell_of_row w3 w.heap.size 9 _ 44 (0, 0) m3
      have x4_9 := cell_of_row w3 (w.heap.size + 1) 9 _ 44 (0, 0) m4
      have x3_10 := cell_of_row w3 w.heap.size 10 _ 44 (0, 0) m3
      have x4_10 := cell_of_row w3 (w.heap.size + 1) 10 _ 44 (0, 0) m4
      have x3_11 := cell_of_row w3 w.heap.size 11 _ 44 (0, 0) m3
      have x4_11 := cell_of_row w3 (w.heap.size + 1) 11 _ 44 (0, 0) m4
      have x3_12 := cell_of_row w3 w.heap.size 12 _ 44 (0, 0) m3
      have x4_12 := cell_of_row w3 (w.heap.size + 1) 12 _ 44 (0, 0) m4
      have x3_13 := cell_of_row w3 w.heap.size 13 _ 44 (0, 0) m3
      have x4_13 := cell_of_row w3 (w.heap.size + 1) 13 _ 44 (0, 0) m4
      clear m3 m4
      cases bI with
      | false =>
        have hrf : r = false := by have h := SM.out; rw [← h]; simp
        subst hrf
        go_wp2_with fail
        go_ret
        exact ⟨rfl, KN.out⟩
      | true =>
        go_wp2_with fail
        refine (E58.out _ ?_).mono ?_
        · first | exact BK.refl _ | exact HB.out
        rintro e w4 ⟨rfl, hb⟩
        clear HB KN
        clear x3_0 x3_1 x3_2 x3_3 x3_4 x3_5 x3_6 x3_7 x3_8 x3_9 x3_10 x3_11 x3_12 x3_13 x4_0 x4_1 x4_2 x4_3 x4_4 x4_5 x4_6 x4_7 x4_8 x4_9 x4_10 x4_11 x4_12 x4_13
        have HB := Lib.hid hb
        clear hb
        have KN := Lib.hid (bk_tr KK.out HB.out)
        obtain ⟨m3, m4⟩ := KD.out _ HB.out
        have x3_0 := cell_of_row w4 w.heap.size 0 _ 44 (0, 0) m3
        have x4_0 := cell_of_row w4 (w.heap.size + 1) 0 _ 44 (0, 0) m4
        have x3_1 := cell_of_row w4 w.heap.size 1 _ 44 (0, 0) m3
        have x4_1 := cell_of_row w4 (w.heap.size + 1) 1 _ 44 (0, 0) m4
        have x3_2 := cell_of_row w4 w.heap.size 2 _ 44 (0, 0) m3
        have x4_2 := cell_of_row w4 (w.heap.size + 1) 2 _ 44 (0, 0) m4
        have x3_3 := cell_of_row w4 w.heap.size 3 _ 44 (0, 0) m3
        have x4_3 := cell_of_row w4 (w.heap.size + 1) 3 _ 44 (0, 0) m4
        have x3_4 := cell_of_row w4 w.heap.size 4 _ 44 (0, 0) m3
        have x4_4 := cell_of_row w4 (w.heap.size + 1) 4 _ 44 (0, 0) m4
        have x3_5 := cell_of_row w4 w.heap.size 5 _ 44 (0, 0) m3
        have x4_5 := cell_of_row w4 (w.heap.size + 1) 5 _ 44 (0, 0) m4
        have x3_6 := cell_of_row w4 w.heap.size 6 _ 44 (0, 0) m3
        have x4_6 := cell_of_row w4 (w.heap.size + 1) 6 _ 44 (0, 0) m4
        have x3_7 := cell_of_row w4 w.heap.size 7 _ 44 (0, 0) m3
        have x4_7 := cell_of_row w4 (w.heap.size + 1) 7 _ 44 (0, 0) m4
        have x3_8 := cell_of_row w4 w.heap.size 8 _ 44 (0, 0) m3
        have x4_8 := cell_of_row w4 (w.heap.size + 1) 8 _ 44 (0, 0) m4
        have x3_9 := cell_of_row w4 w.heap.size 9 _ 44 (0, 0) m3
        have x4_9 := cell_of_row w4 (w.heap.size + 1) 9 _ 44 (0, 0) m4
        have x3_10 := cell_of_row w4 w.heap.size 10 _ 44 (0, 0) m3
        have x4_10 := cell_of_row w4 (w.heap.size + 1) 10 _ 44 (0, 0) m4
        have x3_11 := cell_of_row w4 w.heap.size 11 _ 44 (0, 0) m3
        have x4_11 := cell_of_row w4 (w.heap.size + 1) 11 _ 44 (0, 0) m4
        have x3_12 := cell_of_row w4 w.heap.size 12 _ 44 (0, 0) m3
        have x4_12 := cell_of_row w4 (w.heap.size + 1) 12 _ 44 (0, 0) m4
        have x3_13 := cell_of_row w4 w.heap.size 13 _ 44 (0, 0) m3
        have x4_13 := cell_of_row w4 (w.heap.size + 1) 13 _ 44 (0, 0) m4
        clear m3 m4
        cases bU with
        | false =>
          have hrf : r = false := by have h := SM.out; rw [← h]; simp
          subst hrf
          go_wp2_with fail
          go_ret
          exact ⟨rfl, KN.out⟩
        | true =>
          go_wp2_with fail
          refine (E60.out _ ?_).mono ?_
          · first | exact BK.refl _ | exact HB.out
          rintro e w5 ⟨rfl, hb⟩
          clear HB KN
          clear x3_0 x3_1 x3_2 x3_3 x3_4 x3_5 x3_6 x3_7 x3_8 x3_9 x3_10 x3_11 x3_12 x3_13 x4_0 x4_1 x4_2 x4_3 x4_4 x4_5 x4_6 x4_7 x4_8 x4_9 x4_10 x4_11 x4_12 x4_13
          have HB := Lib.hid hb
          clear hb
          have KN := Lib.hid (bk_tr KK.out HB.out)
          obtain ⟨m3, m4⟩ := KD.out _ HB.out
          have x3_0 := cell_of_row w5 w.heap.size 0 _ 44 (0, 0) m3
          have x4_0 := cell_of_row w5 (w.heap.size + 1) 0 _ 44 (0, 0) m4
          have x3_1 := cell_of_row w5 w.heap.size 1 _ 44 (0, 0) m3
          have x4_1 := cell_of_row w5 (w.heap.size + 1) 1 _ 44 (0, 0) m4
          have x3_2 := cell_of_row w5 w.heap.size 2 _ 44 (0, 0) m3
          have x4_2 := cell_of_row w5 (w.heap.size + 1) 2 _ 44 (0, 0) m4
          have x3_3 := cell_of_row w5 w.heap.size 3 _ 44 (0, 0) m3
          have x4_3 := cell_of_row w5 (w.heap.size + 1) 3 _ 44 (0, 0) m4
          have x3_4 := cell_of_row w5 w.heap.size 4 _ 44 (0, 0) m3
          have x4_4 := cell_of_row w5 (w.heap.size + 1) 4 _ 44 (0, 0) m4
          have x3_5 := cell_of_row w5 w.heap.size 5 _ 44 (0, 0) m3
          have x4_5 := cell_of_row w5 (w.heap.size + 1) 5 _ 44 (0, 0) m4
          have x3_6 := cell_of_row w5 w.heap.size 6 _ 44 (0, 0) m3
          have x4_6 := cell_of_row w5 (w.heap.size + 1) 6 _ 44 (0, 0) m4
          have x3_7 := cell_of_row w5 w.heap.size 7 _ 44 (0, 0) m3
          have x4_7 := cell_of_row w5 (w.heap.size + 1) 7 _ 44 (0, 0) m4
          have x3_8 := cell_of_row w5 w.heap.size 8 _ 44 (0, 0) m3
          have x4_8 := cell_of_row w5 (w.heap.size + 1) 8 _ 44 (0, 0) m4
          have x3_9 := cell_of_row w5 w.heap.size 9 _ 44 (0, 0) m3
          have x4_9 := cell_of_row w5 (w.heap.size + 1) 9 _ 44 (0, 0) m4
          have x3_10 := cell_of_row w5 w.heap.size 10 _ 44 (0, 0) m3
          have x4_10 := cell_of_row w5 (w.heap.size + 1) 10 _ 44 (0, 0) m4
          have x3_11 := cell_of_row w5 w.heap.size 11 _ 44 (0, 0) m3
          have x4_11 := cell_of_row w5 (w.heap.size + 1) 11 _ 44 (0, 0) m4
          have x3_12 := cell_of_row w5 w.heap.size 12 _ 44 (0, 0) m3
          have x4_12 := cell_of_row w5 (w.heap.size + 1) 12 _ 44 (0, 0) m4
          have x3_13 := cell_of_row w5 w.heap.size 13 _ 44 (0, 0) m3
          have x4_13 := cell_of_row w5 (w.heap.size + 1) 13 _ 44 (0, 0) m4
          clear m3 m4
          cases bA with
          | false =>
            have hrf : r = false := by have h := SM.out; rw [← h]; simp
            subst hrf
            go_wp2_with fail
            go_ret
            exact ⟨rfl, KN.out⟩
          | true =>
            go_wp2_with fail
            refine (F60.out _ ?_).mono ?_
            · first | exact BK.refl _ | exact HB.out
            rintro e w6 ⟨rfl, hb⟩
            clear HB KN
            clear x3_0 x3_1 x3_2 x3_3 x3_4 x3_5 x3_6 x3_7 x3_8 x3_9 x3_10 x3_11 x3_12 x3_13 x4_0 x4_1 x4_2 x4_3 x4_4 x4_5 x4_6 x4_7 x4_8 x4_9 x4_10 x4_11 x4_12 x4_13
            have HB := Lib.hid hb
            clear hb
            have KN := Lib.hid (bk_tr KK.out HB.out)
            obtain ⟨m3, m4⟩ := KD.out _ HB.out
            have x3_0 := cell_of_row w6 w.heap.size 0 _ 44 (0, 0) m3
            have x4_0 := cell_of_row w6 (w.heap.size + 1) 0 _ 44 (0, 0) m4
            have x3_1 := cell_of_row w6 w.heap.size 1 _ 44 (0, 0) m3
            have x4_1 := cell_of_row w6 (w.heap.size + 1) 1 _ 44 (0, 0) m4
            have x3_2 := cell_of_row w6 w.heap.size 2 _ 44 (0, 0) m3
            have x4_2 := cell_of_row w6 (w.heap.size + 1) 2 _ 44 (0, 0) m4
            have x3_3 := cell_of_row w6 w.heap.size 3 _ 44 (0, 0) m3
            have x4_3 := cell_of_row w6 (w.heap.size + 1) 3 _ 44 (0, 0) m4
            have x3_4 := cell_of_row w6 w.heap.size 4 _ 44 (0, 0) m3
            have x4_4 := cell_of_row w6 (w.heap.size + 1) 4 _ 44 (0, 0) m4
            have x3_5 := cell_of_row w6 w.heap.size 5 _ 44 (0, 0) m3
            have x4_5 := cell_of_row w6 (w.heap.size + 1) 5 _ 44 (0, 0) m4
            have x3_6 := cell_of_row w6 w.heap.size 6 _ 44 (0, 0) m3
            have x4_6 := cell_of_row w6 (w.heap.size + 1) 6 _ 44 (0, 0) m4
            have x3_7 := cell_of_row w6 w.heap.size 7 _ 44 (0, 0) m3
            have x4_7 := cell_of_row w6 (w.heap.size + 1) 7 _ 44 (0, 0) m4
            have x3_8 := cell_of_row w6 w.heap.size 8 _ 44 (0, 0) m3
            have x4_8 := cell_of_row w6 (w.heap.size + 1) 8 _ 44 (0, 0) m4
            have x3_9 := cell_of_row w6 w.heap.size 9 _ 44 (0, 0) m3
            have x4_9 := cell_of_row w6 (w.heap.size + 1) 9 _ 44 (0, 0) m4
            have x3_10 := cell_of_row w6 w.heap.size 10 _ 44 (0, 0) m3
            have x4_10 := cell_of_row w6 (w.heap.size + 1) 10 _ 44 (0, 0) m4
            have x3_11 := cell_of_row w6 w.heap.size 11 _ 44 (0, 0) m3
            have x4_11 := cell_of_row w6 (w.heap.size + 1) 11 _ 44 (0, 0) m4
            have x3_12 := cell_of_row w6 w.heap.size 12 _ 44 (0, 0) m3
            have x4_12 := cell_of_row w6 (w.heap.size + 1) 12 _ 44 (0, 0) m4
            have x3_13 := cell_of_row w6 w.heap.size 13 _ 44 (0, 0) m3
            have x4_13 := cell_of_row w6 (w.heap.size + 1) 13 _ 44 (0, 0) m4
            clear m3 m4
            cases bB with
            | false =>
              have hrf : r = false := by have h := SM.out; rw [← h]; simp
              subst hrf
              go_wp2_with fail
              go_ret
              exact ⟨rfl, KN.out⟩
            | true =>
              have hrt : r = true := by have h := SM.out; rw [← h]; simp
              subst hrt
              go_wp2_with fail
              go_ret
              exact ⟨rfl, KN.out⟩
    · have hne : (ru3 == ru4) = false := by simpa using hru
      have hrf : r = false := by have h := SM.out; rw [← h]; simp [hru]
      subst hrf
      go_enter Tryd.func41, Tryd.ntmps41
      go_wp2_with fail
      go_ret
      exact ⟨rfl, KK.out⟩
  · have hne : (kk3 == kk4) = false := by simpa using hk
    have hrf : r = false := by have h := SM.out; rw [← h]; simp [hk]
    subst hrf
    go_enter Tryd.func41, Tryd.ntmps41
    go_wp2_with fail
    go_ret
    exact ⟨rfl, KK.out⟩
set_option maxRecDepth 100000 in
set_option maxHeartbeats 4000000 in
theorem eqf40 (ts us : List S) (hl : ts.length ≤ 100000) (ih : ∀ s ∈ ts, okQ s) (w : World) (p q : Option Addr) (c d : Nat) (hp : RowS (mem 0 w) w p c ts) (hq : RowS (mem 0 w) w q d us) : Calls Tryd.prog 40 #[.slice p ts.length c, .slice q us.length d, .func (.func 41) #[] #[]] w fun e w' => e = .returned (.bool (samL ts us)) ∧ BK w w' := by
  by_cases hn : ts.length = us.length
  · have HN := Lib.hid hn
    rw [← hn]
    have HP := Lib.hid hp
    have HQ := Lib.hid hq
    have IH := Lib.hid ih
    have HL := Lib.hid hl
    clear hp hq ih hl hn
    generalize hr : samL ts us = r
    have HR := Lib.hid hr
    clear hr
    go_enter Tryd.func40, Tryd.ntmps40
    go_wp2_with fail
    go_loopw [17] (fun iv wr => ∃ k : Nat, k ≤ ts.length ∧ iv = .int .i64 (k : Int) ∧ samL (ts.drop k) (us.drop k) = r ∧ BK w wr) (fun iv _ => ts.length - (intOf iv).toNat)
    case atStart => exact ⟨0, Nat.zero_le _, rfl, HR.out, BK.refl _⟩
    case round =>
      obtain ⟨k, hk, rfl, heq, hb⟩ := hrel
      have KB := Lib.hid hb
      have EQ := Lib.hid heq
      clear hb heq
      by_cases e : k = ts.length
      · have hd : decide (k < ts.length) = false := by simp [e]
        have EQ2 := EQ.out
        rw [List.drop_of_length_le (by omega), List.drop_of_length_le (by rw [← HN.out]; omega), samL_nil] at EQ2
        subst EQ2
        subst e
        go_wp2_with fail
        go_ret
        exact ⟨rfl, KB.out⟩
      · have hlt : k < ts.length := by omega
        have hlu : k < us.length := by rw [← HN.out]; exact hlt
        have hd : decide (k < ts.length) = true := by simpa using hlt
        obtain ⟨b3, o3, q3, rfl, -, hc3, hr3⟩ := (HP.out.bk KB.out (Nat.le_refl _)).get hlt
        obtain ⟨y0, y1, y2, y3, y4, y5, y6, y7, y8, y9, y10, y11, y12, y13⟩ := hc3.all
        obtain ⟨b4, o4, q4, rfl, -, hc4, hr4⟩ := (HQ.out.bk KB.out (Nat.le_refl _)).get hlu
        obtain ⟨z0, z1, z2, z3, z4, z5, z6, z7, z8, z9, z10, z11, z12, z13⟩ := hc4.all
        have OKU := IH.out _ (List.getElem_mem hlt)
        have EQ1 := EQ.out
        rw [List.drop_eq_getElem_cons hlt, List.drop_eq_getElem_cons hlu, samL_cons] at EQ1
        generalize ts[k] = u at *
        generalize us[k] = v at *
        have KX := bk_alloc (BK.refl wr) (.cells #[.int .i64 u.k, .slice q3.p1 u.rf.length q3.c1, .int .i64 u.ru, .slice q3.p2 u.sb.length q3.c2, .int .i64 u.a.op, .int .i64 u.a.wd, .int .u64 u.a.vl, .string u.a.nm, .slice q3.p3 u.a.ts.length q3.c3, .int .i64 u.b.op, .int .i64 u.b.wd, .int .u64 u.b.vl, .string u.b.nm, .slice q3.p4 u.b.ts.length q3.c4] 44)
        have Z0 := cellBk z0 KX
        have Z1 := cellBk z1 KX
        have Z2 := cellBk z2 KX
        have Z3 := cellBk z3 KX
        have Z4 := cellBk z4 KX
        have Z5 := cellBk z5 KX
        have Z6 := cellBk z6 KX
        have Z7 := cellBk z7 KX
        have Z8 := cellBk z8 KX
        have Z9 := cellBk z9 KX
        have Z10 := cellBk z10 KX
        have Z11 := cellBk z11 KX
        have Z12 := cellBk z12 KX
        have Z13 := cellBk z13 KX
        have KY := bk_alloc (BK.refl (wr.alloc (.cells #[.int .i64 u.k, .slice q3.p1 u.rf.length q3.c1, .int .i64 u.ru, .slice q3.p2 u.sb.length q3.c2, .int .i64 u.a.op, .int .i64 u.a.wd, .int .u64 u.a.vl, .string u.a.nm, .slice q3.p3 u.a.ts.length q3.c3, .int .i64 u.b.op, .int .i64 u.b.wd, .int .u64 u.b.vl, .string u.b.nm, .slice q3.p4 u.b.ts.length q3.c4] 44))) (.cells #[.int .i64 v.k, .slice q4.p1 v.rf.length q4.c1, .int .i64 v.ru, .slice q4.p2 v.sb.length q4.c2, .int .i64 v.a.op, .int .i64 v.a.wd, .int .u64 v.a.vl, .string v.a.nm, .slice q4.p3 v.a.ts.length q4.c3, .int .i64 v.b.op, .int .i64 v.b.wd, .int .u64 v.b.vl, .string v.b.nm, .slice q4.p4 v.b.ts.length q4.c4] 44)
        have N1 := (bk_block KY (by rw [sz1]; omega)).trans (heap_alloc_new wr (.cells #[.int .i64 u.k, .slice q3.p1 u.rf.length q3.c1, .int .i64 u.ru, .slice q3.p2 u.sb.length q3.c2, .int .i64 u.a.op, .int .i64 u.a.wd, .int .u64 u.a.vl, .string u.a.nm, .slice q3.p3 u.a.ts.length q3.c3, .int .i64 u.b.op, .int .i64 u.b.wd, .int .u64 u.b.vl, .string u.b.nm, .slice q3.p4 u.b.ts.length q3.c4] 44))
        have x0 := cell_of_row _ wr.heap.size 0 _ 44 (0, 0) N1
        have x1 := cell_of_row _ wr.heap.size 1 _ 44 (0, 0) N1
        have x2 := cell_of_row _ wr.heap.size 2 _ 44 (0, 0) N1
        have x3 := cell_of_row _ wr.heap.size 3 _ 44 (0, 0) N1
        have x4 := cell_of_row _ wr.heap.size 4 _ 44 (0, 0) N1
        have x5 := cell_of_row _ wr.heap.size 5 _ 44 (0, 0) N1
        have x6 := cell_of_row _ wr.heap.size 6 _ 44 (0, 0) N1
        have x7 := cell_of_row _ wr.heap.size 7 _ 44 (0, 0) N1
        have x8 := cell_of_row _ wr.heap.size 8 _ 44 (0, 0) N1
        have x9 := cell_of_row _ wr.heap.size 9 _ 44 (0, 0) N1
        have x10 := cell_of_row _ wr.heap.size 10 _ 44 (0, 0) N1
        have x11 := cell_of_row _ wr.heap.size 11 _ 44 (0, 0) N1
        have x12 := cell_of_row _ wr.heap.size 12 _ 44 (0, 0) N1
        have x13 := cell_of_row _ wr.heap.size 13 _ 44 (0, 0) N1
        have KXY := Lib.hid (bk_tr KX KY)
        have EQ2 := EQ1
        generalize hbb : samS u v = bb at EQ2
        have CC := Lib.hid (show Calls Tryd.prog 41 #[.agg #[.int .i64 u.k, .slice q3.p1 u.rf.length q3.c1, .int .i64 u.ru, .slice q3.p2 u.sb.length q3.c2, .int .i64 u.a.op, .int .i64 u.a.wd, .int .u64 u.a.vl, .string u.a.nm, .slice q3.p3 u.a.ts.length q3.c3, .int .i64 u.b.op, .int .i64 u.b.wd, .int .u64 u.b.vl, .string u.b.nm, .slice q3.p4 u.b.ts.length q3.c4], .agg #[.int .i64 v.k, .slice q4.p1 v.rf.length q4.c1, .int .i64 v.ru, .slice q4.p2 v.sb.length q4.c2, .int .i64 v.a.op, .int .i64 v.a.wd, .int .u64 v.a.vl, .string v.a.nm, .slice q4.p3 v.a.ts.length q4.c3, .int .i64 v.b.op, .int .i64 v.b.wd, .int .u64 v.b.vl, .string v.b.nm, .slice q4.p4 v.b.ts.length q4.c4]] ((wr.alloc (.cells #[.int .i64 u.k, .slice q3.p1 u.rf.length q3.c1, .int .i64 u.ru, .slice q3.p2 u.sb.length q3.c2, .int .i64 u.a.op, .int .i64 u.a.wd, .int .u64 u.a.vl, .string u.a.nm, .slice q3.p3 u.a.ts.length q3.c3, .int .i64 u.b.op, .int .i64 u.b.wd, .int .u64 u.b.vl, .string u.b.nm, .slice q3.p4 u.b.ts.length q3.c4] 44)).alloc (.cells #[.int .i64 v.k, .slice q4.p1 v.rf.length q4.c1, .int .i64 v.ru, .slice q4.p2 v.sb.length q4.c2, .int .i64 v.a.op, .int .i64 v.a.wd, .int .u64 v.a.vl, .string v.a.nm, .slice q4.p3 v.a.ts.length q4.c3, .int .i64 v.b.op, .int .i64 v.b.wd, .int .u64 v.b.vl, .string v.b.nm, .slice q4.p4 v.b.ts.length q4.c4] 44)) (fun e w' => e = .returned (.bool bb) ∧ BK wr w') from by
          have := step41 u v OKU q3 q4 _ (hr3.bk KXY.out (Nat.le_refl _)) (hr4.bk KXY.out (Nat.le_refl _))
          rw [hbb] at this
          exact this.mono fun e w' ⟨h1, h2⟩ => ⟨h1, bk_tr KXY.out h2⟩)
        have EQ3 := Lib.hid EQ2
        have ei : IntKind.i64.wrap ((k : Int) + 1) = (k : Int) + 1 := by have := HL.out; exact IntWalk.i64_in _ (by omega)
        have hki : (k : Int) < (ts.length : Int) := by omega
        have HLT := Lib.hid hlt
        clear hr3 hr4 hc3 hc4 OKU EQ1 e EQ2 hbb KX KY N1 z0 z1 z2 z3 z4 z5 z6 z7 z8 z9 z10 z11 z12 z13
        go_wp2_with fail
        refine CC.out.mono ?_
        rintro e wn ⟨rfl, hwn⟩
        have KN := Lib.hid (bk_tr KB.out hwn)
        clear hwn
        cases bb with
        | false =>
          have EQ4 := EQ3.out
          rw [if_neg (by decide)] at EQ4
          subst EQ4
          go_wp2_with fail
          go_ret
          exact ⟨rfl, KN.out⟩
        | true =>
          have EQ4 := Lib.hid (show samL (ts.drop (k + 1)) (us.drop (k + 1)) = r from by have := EQ3.out; rwa [if_pos rfl] at this)
          go_wp2_with fail
          go_roundw
          case rel => exact ⟨k + 1, by have := HLT.out; omega, by go_num, EQ4.out, KN.out⟩
          case measure => have := HLT.out; simp [intOf]; omega
  · rw [samL_ne hn]
    have hne : ((ts.length : Int) != (us.length : Int)) = true := nn_cast hn
    clear hp hq ih hl
    generalize ts.length = n at *
    generalize us.length = m at *
    go_enter Tryd.func40, Tryd.ntmps40
    go_wp2_with fail
    go_ret
    exact ⟨rfl, BK.refl _⟩
set_option maxHeartbeats 1000000 in
theorem same23 (ss tt : List S) (hl : ss.length ≤ 100000) (hok : ∀ s ∈ ss, okQ s) (w : World) (p q : Option Addr) (c d : Nat) (hp : RowS (mem 0 w) w p c ss) (hq : RowS (mem 0 w) w q d tt) : Calls Tryd.prog 23 #[.slice p ss.length c, .slice q tt.length d] w fun e w' => e = .returned (.bool (samL ss tt)) ∧ BK w w' := by
  have CC := Lib.hid (eqf40 ss tt hl hok w p q c d hp hq)
  clear hp hq hok hl
  generalize samL ss tt = r at *
  go_enter Tryd.func23, Tryd.ntmps23
  go_wp2_with fail
  refine CC.out.mono ?_
  rintro e w2 ⟨rfl, hb⟩
  have K2 := Lib.hid hb
  clear hb
  go_wp2_with fail
  go_ret
  exact ⟨rfl, K2.out⟩
end Go.Proofs.YtnlpiaejfmdckaaDoor
