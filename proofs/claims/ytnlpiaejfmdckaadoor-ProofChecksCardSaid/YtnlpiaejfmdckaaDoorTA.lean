/- The program's Same of terms and of substitutions. -/
import Derived.Test.YtnlpiaejfmdckaaDoorSE
namespace Go.Proofs.YtnlpiaejfmdckaaDoor
open Go.RowKit
set_option linter.unusedVariables false
set_option linter.unusedSimpArgs false
def SPC (t : T) : Prop := ∀ (u : T) (w : World) (p q : Option Addr) (c d : Nat), RowD (mem 0 w) w p c t.ts → RowD (mem 0 w) w q d u.ts → Calls Tryd.prog 60 #[.agg #[.int .i64 t.op, .int .i64 t.wd, .int .u64 t.vl, .string t.nm, .slice p t.ts.length c], .agg #[.int .i64 u.op, .int .i64 u.wd, .int .u64 u.vl, .string u.nm, .slice q u.ts.length d]] w fun e w' => e = .returned (.bool (sameT t u)) ∧ BK w w'
set_option maxRecDepth 100000 in
set_option maxHeartbeats 4000000 in
theorem eqf76 (ts us : List T) (hl : ts.length ≤ 100000) (ih : ∀ t ∈ ts, SPC t) (w : World) (p q : Option Addr) (c d : Nat) (hp : RowD (mem 0 w) w p c ts) (hq : RowD (mem 0 w) w q d us) : Calls Tryd.prog 76 #[.slice p ts.length c, .slice q us.length d, .func (.func 60) #[] #[]] w fun e w' => e = .returned (.bool (sameL ts us)) ∧ BK w w' := by
  by_cases hn : ts.length = us.length
  · have HN := Lib.hid hn
    rw [← hn]
    have HP := Lib.hid hp
    have HQ := Lib.hid hq
    have IH := Lib.hid ih
    have HL := Lib.hid hl
    clear hp hq ih hl hn
    generalize hr : sameL ts us = r
    have HR := Lib.hid hr
    clear hr
    go_enter Tryd.func76, Tryd.ntmps76
    go_wp2_with fail
    go_loopw [17] (fun iv wr => ∃ k : Nat, k ≤ ts.length ∧ iv = .int .i64 (k : Int) ∧ sameL (ts.drop k) (us.drop k) = r ∧ BK w wr) (fun iv _ => ts.length - (intOf iv).toNat)
    case atStart => exact ⟨0, Nat.zero_le _, rfl, HR.out, BK.refl _⟩
    case round =>
      obtain ⟨k, hk, rfl, heq, hb⟩ := hrel
      have KB := Lib.hid hb
      have EQ := Lib.hid heq
      clear hb heq
      by_cases e : k = ts.length
      · have hd : decide (k < ts.length) = false := by simp [e]
        have EQ2 := EQ.out
        rw [List.drop_of_length_le (by omega), List.drop_of_length_le (by rw [← HN.out]; omega), sameL_nil] at EQ2
        subst EQ2
        subst e
        go_wp2_with fail
        go_ret
        exact ⟨rfl, KB.out⟩
      · have hlt : k < ts.length := by omega
        have hlu : k < us.length := by rw [← HN.out]; exact hlt
        have hd : decide (k < ts.length) = true := by simpa using hlt
        obtain ⟨b3, o3, op3, wd3, vl3, nm3, us3, q3, d3, rfl, -, he3, ⟨y0, y1, y2, y3, y4⟩, hr3⟩ := (HP.out.bk KB.out (Nat.le_refl _)).get hlt
        obtain ⟨b4, o4, op4, wd4, vl4, nm4, us4, q4, d4, rfl, -, he4, ⟨z0, z1, z2, z3, z4⟩, hr4⟩ := (HQ.out.bk KB.out (Nat.le_refl _)).get hlu
        have KX := bk_alloc (BK.refl wr) (.cells #[.int .i64 op3, .int .i64 wd3, .int .u64 vl3, .string nm3, .slice q3 us3.length d3] 42)
        have Z0 := cellBk z0 KX
        have Z1 := cellBk z1 KX
        have Z2 := cellBk z2 KX
        have Z3 := cellBk z3 KX
        have Z4 := cellBk z4 KX
        have KY := bk_alloc (BK.refl (wr.alloc (.cells #[.int .i64 op3, .int .i64 wd3, .int .u64 vl3, .string nm3, .slice q3 us3.length d3] 42))) (.cells #[.int .i64 op4, .int .i64 wd4, .int .u64 vl4, .string nm4, .slice q4 us4.length d4] 42)
        have N1 := (bk_block KY (by rw [sz1]; omega)).trans (heap_alloc_new wr (.cells #[.int .i64 op3, .int .i64 wd3, .int .u64 vl3, .string nm3, .slice q3 us3.length d3] 42))
        have x0 := cell_of_row _ wr.heap.size 0 _ 42 (0, 0) N1
        have x1 := cell_of_row _ wr.heap.size 1 _ 42 (0, 0) N1
        have x2 := cell_of_row _ wr.heap.size 2 _ 42 (0, 0) N1
        have x3 := cell_of_row _ wr.heap.size 3 _ 42 (0, 0) N1
        have x4 := cell_of_row _ wr.heap.size 4 _ 42 (0, 0) N1
        have KXY := Lib.hid (bk_tr KX KY)
        have EQ2 := EQ.out
        rw [List.drop_eq_getElem_cons hlt, List.drop_eq_getElem_cons hlu, sameL_cons, he3, he4] at EQ2
        generalize hbb : sameT (T.mk op3 wd3 vl3 nm3 us3) (T.mk op4 wd4 vl4 nm4 us4) = bb at EQ2
        have CC := Lib.hid (show Calls Tryd.prog 60 #[.agg #[.int .i64 op3, .int .i64 wd3, .int .u64 vl3, .string nm3, .slice q3 us3.length d3], .agg #[.int .i64 op4, .int .i64 wd4, .int .u64 vl4, .string nm4, .slice q4 us4.length d4]] ((wr.alloc (.cells #[.int .i64 op3, .int .i64 wd3, .int .u64 vl3, .string nm3, .slice q3 us3.length d3] 42)).alloc (.cells #[.int .i64 op4, .int .i64 wd4, .int .u64 vl4, .string nm4, .slice q4 us4.length d4] 42)) (fun e w' => e = .returned (.bool bb) ∧ BK wr w') from by
          have := IH.out ts[k] (List.getElem_mem hlt) (.mk op4 wd4 vl4 nm4 us4) _ q3 q4 d3 d4 (by rw [he3]; exact hr3.bk KXY.out (Nat.le_refl _)) (hr4.bk KXY.out (Nat.le_refl _))
          rw [he3, hbb] at this
          exact this.mono fun e w' ⟨h1, h2⟩ => ⟨h1, bk_tr KXY.out h2⟩)
        have EQ3 := Lib.hid EQ2
        have ei : IntKind.i64.wrap ((k : Int) + 1) = (k : Int) + 1 := by have := HL.out; exact IntWalk.i64_in _ (by omega)
        have hki : (k : Int) < (ts.length : Int) := by omega
        have HLT := Lib.hid hlt
        clear hr3 hr4 he3 he4 e EQ2 hbb KX KY N1 z0 z1 z2 z3 z4
        go_wp2_with fail
        refine CC.out.mono ?_
        rintro e wn ⟨rfl, hwn⟩
        have KN := Lib.hid (bk_tr KB.out hwn)
        clear hwn
        cases bb with
        | false =>
          have EQ4 := EQ3.out
          rw [if_neg (by decide)] at EQ4
          subst EQ4
          go_wp2_with fail
          go_ret
          exact ⟨rfl, KN.out⟩
        | true =>
          have EQ4 := Lib.hid (show sameL (ts.drop (k + 1)) (us.drop (k + 1)) = r from by have := EQ3.out; rwa [if_pos rfl] at this)
          go_wp2_with fail
          go_roundw
          case rel => exact ⟨k + 1, by have := HLT.out; omega, by go_num, EQ4.out, KN.out⟩
          case measure => have := HLT.out; simp [intOf]; omega
  · rw [sameL_ne hn]
    have hne : ((ts.length : Int) != (us.length : Int)) = true := nn_cast hn
    clear hp hq ih hl
    generalize ts.length = n at *
    generalize us.length = m at *
    go_enter Tryd.func76, Tryd.ntmps76
    go_wp2_with fail
    go_ret
    exact ⟨rfl, BK.refl _⟩
set_option maxRecDepth 100000 in
set_option maxHeartbeats 4000000 in
theorem same60 (t : T) (hok : smT t) : SPC t := by
  induction t using T.ind with
  | h op wd vl nm ts ih =>
    intro u w p q c d hp0 hq0
    cases u with
    | mk op' wd' vl' nm' us =>
    rw [smT_mk] at hok
    have hp : RowD (mem 0 w) w p c ts := hp0
    have hq : RowD (mem 0 w) w q d us := hq0
    show Calls Tryd.prog 60 #[.agg #[.int .i64 op, .int .i64 wd, .int .u64 vl, .string nm, .slice p ts.length c], .agg #[.int .i64 op', .int .i64 wd', .int .u64 vl', .string nm', .slice q us.length d]] w _
    obtain ⟨h1, h2', h3'⟩ := two_boxes w #[.int .i64 op, .int .i64 wd, .int .u64 vl, .string nm, .slice p ts.length c] #[.int .i64 op', .int .i64 wd', .int .u64 vl', .string nm', .slice q us.length d] 42 42
    have h2 := cs_of_row h2'
    have h3 := cs_of_row h3'
    have KK := Lib.hid h1
    have C76 := Lib.hid (eqf76 ts us hok.1 (fun t ht => ih t ht (smL_iff.1 hok.2 t ht)) _ p q c d (hp.bk h1 (Nat.le_refl _)) (hq.bk h1 (Nat.le_refl _)))
    have x0 := h2 0 _ rfl
    have x1 := h2 1 _ rfl
    have x2 := h2 2 _ rfl
    have x3 := h2 3 _ rfl
    have x4 := h2 4 _ rfl
    have y0 := h3 0 _ rfl
    have y1 := h3 1 _ rfl
    have y2 := h3 2 _ rfl
    have y3 := h3 3 _ rfl
    have y4 := h3 4 _ rfl
    clear hp hq ih hp0 hq0 hok h1 h2 h3 h2' h3'
    rw [sameT_mk]
    by_cases e0 : op = op'
    · subst e0
      rw [if_pos rfl]
      by_cases e1 : wd = wd'
      · subst e1
        rw [if_pos rfl]
        by_cases e2 : vl = vl'
        · subst e2
          rw [if_pos rfl]
          by_cases e3 : nm = nm'
          · subst e3
            rw [if_pos rfl]
            generalize sameL ts us = r at *
            go_enter Tryd.func60, Tryd.ntmps60
            go_wp2_with fail
            refine C76.out.mono ?_
            rintro e w3 ⟨rfl, hb3⟩
            have K3 := Lib.hid hb3
            clear hb3
            go_wp2_with fail
            go_ret
            exact ⟨rfl, bk_tr KK.out K3.out⟩
          · rw [if_neg e3]
            have hne : ¬ nm.toList = nm'.toList := fun e => e3 (str_inj e)
            clear e3
            go_enter Tryd.func60, Tryd.ntmps60
            go_wp2_with fail
            go_ret
            exact ⟨rfl, KK.out⟩
        · rw [if_neg e2]
          have hne : ((vl : Int) == (vl' : Int)) = false := ne_cast e2
          have hne2 : ¬ (vl : Int) = (vl' : Int) := by omega
          clear e2
          go_enter Tryd.func60, Tryd.ntmps60
          go_wp2_with fail
          go_ret
          exact ⟨rfl, KK.out⟩
      · rw [if_neg e1]
        have hne : (wd == wd') = false := by simp [e1]
        go_enter Tryd.func60, Tryd.ntmps60
        go_wp2_with fail
        go_ret
        exact ⟨rfl, KK.out⟩
    · rw [if_neg e0]
      have hne : (op == op') = false := by simp [e0]
      go_enter Tryd.func60, Tryd.ntmps60
      go_wp2_with fail
      go_ret
      exact ⟨rfl, KK.out⟩
def suB (u v : U) : Bool := if u.nm = v.nm then sameT u.t v.t else false
theorem subB_su (u v : U) (us vs : List U) : subB (u :: us) (v :: vs) = if suB u v = true then subB us vs else false := by
  rw [subB_cons]
  unfold suB
  by_cases h : u.nm = v.nm
  · rw [if_pos h, if_pos h]
  · rw [if_neg h, if_neg h]; rfl
set_option maxRecDepth 100000 in
set_option maxHeartbeats 4000000 in
theorem sub59 (un vn : ByteArray) (op wd : Int) (vl : Nat) (nm : ByteArray) (ts : List T) (op' wd' : Int) (vl' : Nat) (nm' : ByteArray) (us : List T) (hok : smT (.mk op wd vl nm ts)) (w : World) (p q : Option Addr) (c d : Nat) (hp : RowD (mem 0 w) w p c ts) (hq : RowD (mem 0 w) w q d us) : Calls Tryd.prog 59 #[.agg #[.string un, .int .i64 op, .int .i64 wd, .int .u64 vl, .string nm, .slice p ts.length c], .agg #[.string vn, .int .i64 op', .int .i64 wd', .int .u64 vl', .string nm', .slice q us.length d]] w fun e w' => e = .returned (.bool (suB ⟨un, .mk op wd vl nm ts⟩ ⟨vn, .mk op' wd' vl' nm' us⟩)) ∧ BK w w' := by
  obtain ⟨h1, h2', h3'⟩ := two_boxes w #[.string un, .int .i64 op, .int .i64 wd, .int .u64 vl, .string nm, .slice p ts.length c] #[.string vn, .int .i64 op', .int .i64 wd', .int .u64 vl', .string nm', .slice q us.length d] 56 56
  have KK := Lib.hid h1
  have CW := Lib.hid (show Calls Tryd.prog 60 #[.agg #[.int .i64 op, .int .i64 wd, .int .u64 vl, .string nm, .slice p ts.length c], .agg #[.int .i64 op', .int .i64 wd', .int .u64 vl', .string nm', .slice q us.length d]] _ _ from same60 _ hok (.mk op' wd' vl' nm' us) _ p q c d (hp.bk h1 (Nat.le_refl _)) (hq.bk h1 (Nat.le_refl _)))
  have x0 := cell_of_row _ w.heap.size 0 _ 56 (0, 0) h2'
  have y0 := cell_of_row _ (w.heap.size + 1) 0 _ 56 (0, 0) h3'
  have x1 := cell_of_row _ w.heap.size 1 _ 56 (0, 0) h2'
  have y1 := cell_of_row _ (w.heap.size + 1) 1 _ 56 (0, 0) h3'
  have x2 := cell_of_row _ w.heap.size 2 _ 56 (0, 0) h2'
  have y2 := cell_of_row _ (w.heap.size + 1) 2 _ 56 (0, 0) h3'
  have x3 := cell_of_row _ w.heap.size 3 _ 56 (0, 0) h2'
  have y3 := cell_of_row _ (w.heap.size + 1) 3 _ 56 (0, 0) h3'
  have x4 := cell_of_row _ w.heap.size 4 _ 56 (0, 0) h2'
  have y4 := cell_of_row _ (w.heap.size + 1) 4 _ 56 (0, 0) h3'
  have x5 := cell_of_row _ w.heap.size 5 _ 56 (0, 0) h2'
  have y5 := cell_of_row _ (w.heap.size + 1) 5 _ 56 (0, 0) h3'
  have SB : suB ⟨un, .mk op wd vl nm ts⟩ ⟨vn, .mk op' wd' vl' nm' us⟩ = if un = vn then sameT (.mk op wd vl nm ts) (.mk op' wd' vl' nm' us) else false := rfl
  rw [SB]
  clear hp hq hok h1 h2' h3' SB
  generalize sameT (.mk op wd vl nm ts) (.mk op' wd' vl' nm' us) = r at *
  by_cases e : un = vn
  · subst e
    rw [if_pos rfl]
    go_enter Tryd.func59, Tryd.ntmps59
    go_wp2_with fail
    refine CW.out.mono ?_
    rintro e w3 ⟨rfl, hb3⟩
    have K3 := Lib.hid hb3
    clear hb3
    go_wp2_with fail
    go_ret
    exact ⟨rfl, bk_tr KK.out K3.out⟩
  · rw [if_neg e]
    have hne : ¬ un.toList = vn.toList := fun h => e (str_inj h)
    clear e
    go_enter Tryd.func59, Tryd.ntmps59
    go_wp2_with fail
    go_ret
    exact ⟨rfl, KK.out⟩
set_option maxRecDepth 100000 in
set_option maxHeartbeats 4000000 in
theorem eqf58 (ts us : List U) (hl : ts.length ≤ 100000) (ih : ∀ u ∈ ts, smT u.t) (w : World) (p q : Option Addr) (c d : Nat) (hp : RowU (mem 0 w) w p c ts) (hq : RowU (mem 0 w) w q d us) : Calls Tryd.prog 58 #[.slice p ts.length c, .slice q us.length d, .func (.func 59) #[] #[]] w fun e w' => e = .returned (.bool (subB ts us)) ∧ BK w w' := by
  by_cases hn : ts.length = us.length
  · have HN := Lib.hid hn
    rw [← hn]
    have HP := Lib.hid hp
    have HQ := Lib.hid hq
    have IH := Lib.hid ih
    have HL := Lib.hid hl
    clear hp hq ih hl hn
    generalize hr : subB ts us = r
    have HR := Lib.hid hr
    clear hr
    go_enter Tryd.func58, Tryd.ntmps58
    go_wp2_with fail
    go_loopw [17] (fun iv wr => ∃ k : Nat, k ≤ ts.length ∧ iv = .int .i64 (k : Int) ∧ subB (ts.drop k) (us.drop k) = r ∧ BK w wr) (fun iv _ => ts.length - (intOf iv).toNat)
    case atStart => exact ⟨0, Nat.zero_le _, rfl, HR.out, BK.refl _⟩
    case round =>
      obtain ⟨k, hk, rfl, heq, hb⟩ := hrel
      have KB := Lib.hid hb
      have EQ := Lib.hid heq
      clear hb heq
      by_cases e : k = ts.length
      · have hd : decide (k < ts.length) = false := by simp [e]
        have EQ2 := EQ.out
        rw [List.drop_of_length_le (by omega), List.drop_of_length_le (by rw [← HN.out]; omega), subB_nil] at EQ2
        subst EQ2
        subst e
        go_wp2_with fail
        go_ret
        exact ⟨rfl, KB.out⟩
      · have hlt : k < ts.length := by omega
        have hlu : k < us.length := by rw [← HN.out]; exact hlt
        have hd : decide (k < ts.length) = true := by simpa using hlt
        obtain ⟨b3, o3, q3, d3, rfl, -, hc3, hr3⟩ := (HP.out.bk KB.out (Nat.le_refl _)).get6 hlt
        obtain ⟨b4, o4, q4, d4, rfl, -, hc4, hr4⟩ := (HQ.out.bk KB.out (Nat.le_refl _)).get6 hlu
        have OKU := IH.out _ (List.getElem_mem hlt)
        have EQ1 := EQ.out
        rw [List.drop_eq_getElem_cons hlt, List.drop_eq_getElem_cons hlu, subB_su] at EQ1
        generalize ts[k] = u at *
        generalize us[k] = v at *
        obtain ⟨un, ⟨op3, wd3, vl3, nm3, us3⟩⟩ := u
        obtain ⟨vn, ⟨op4, wd4, vl4, nm4, us4⟩⟩ := v
        obtain ⟨y0, y1, y2, y3, y4, y5⟩ := show C6 wr b3 (o3 + k * 6) (.string un) (.int .i64 op3) (.int .i64 wd3) (.int .u64 vl3) (.string nm3) (.slice q3 us3.length d3) from hc3
        obtain ⟨z0, z1, z2, z3, z4, z5⟩ := show C6 wr b4 (o4 + k * 6) (.string vn) (.int .i64 op4) (.int .i64 wd4) (.int .u64 vl4) (.string nm4) (.slice q4 us4.length d4) from hc4
        have KX := bk_alloc (BK.refl wr) (.cells #[.string un, .int .i64 op3, .int .i64 wd3, .int .u64 vl3, .string nm3, .slice q3 us3.length d3] 56)
        have Z0 := cellBk z0 KX
        have Z1 := cellBk z1 KX
        have Z2 := cellBk z2 KX
        have Z3 := cellBk z3 KX
        have Z4 := cellBk z4 KX
        have Z5 := cellBk z5 KX
        have KY := bk_alloc (BK.refl (wr.alloc (.cells #[.string un, .int .i64 op3, .int .i64 wd3, .int .u64 vl3, .string nm3, .slice q3 us3.length d3] 56))) (.cells #[.string vn, .int .i64 op4, .int .i64 wd4, .int .u64 vl4, .string nm4, .slice q4 us4.length d4] 56)
        have N1 := (bk_block KY (by rw [sz1]; omega)).trans (heap_alloc_new wr (.cells #[.string un, .int .i64 op3, .int .i64 wd3, .int .u64 vl3, .string nm3, .slice q3 us3.length d3] 56))
        have x0 := cell_of_row _ wr.heap.size 0 _ 56 (0, 0) N1
        have x1 := cell_of_row _ wr.heap.size 1 _ 56 (0, 0) N1
        have x2 := cell_of_row _ wr.heap.size 2 _ 56 (0, 0) N1
        have x3 := cell_of_row _ wr.heap.size 3 _ 56 (0, 0) N1
        have x4 := cell_of_row _ wr.heap.size 4 _ 56 (0, 0) N1
        have x5 := cell_of_row _ wr.heap.size 5 _ 56 (0, 0) N1
        have KXY := Lib.hid (bk_tr KX KY)
        have EQ2 := EQ1
        generalize hbb : suB ⟨un, T.mk op3 wd3 vl3 nm3 us3⟩ ⟨vn, T.mk op4 wd4 vl4 nm4 us4⟩ = bb at EQ2
        have CC := Lib.hid (show Calls Tryd.prog 59 #[.agg #[.string un, .int .i64 op3, .int .i64 wd3, .int .u64 vl3, .string nm3, .slice q3 us3.length d3], .agg #[.string vn, .int .i64 op4, .int .i64 wd4, .int .u64 vl4, .string nm4, .slice q4 us4.length d4]] ((wr.alloc (.cells #[.string un, .int .i64 op3, .int .i64 wd3, .int .u64 vl3, .string nm3, .slice q3 us3.length d3] 56)).alloc (.cells #[.string vn, .int .i64 op4, .int .i64 wd4, .int .u64 vl4, .string nm4, .slice q4 us4.length d4] 56)) (fun e w' => e = .returned (.bool bb) ∧ BK wr w') from by
          have := sub59 un vn op3 wd3 vl3 nm3 us3 op4 wd4 vl4 nm4 us4 OKU _ q3 q4 d3 d4 (hr3.bk KXY.out (Nat.le_refl _)) (hr4.bk KXY.out (Nat.le_refl _))
          rw [hbb] at this
          exact this.mono fun e w' ⟨h1, h2⟩ => ⟨h1, bk_tr KXY.out h2⟩)
        have EQ3 := Lib.hid EQ2
        have ei : IntKind.i64.wrap ((k : Int) + 1) = (k : Int) + 1 := by have := HL.out; exact IntWalk.i64_in _ (by omega)
        have hki : (k : Int) < (ts.length : Int) := by omega
        have HLT := Lib.hid hlt
        clear hr3 hr4 hc3 hc4 OKU EQ1 e EQ2 hbb KX KY N1 z0 z1 z2 z3 z4 z5
        go_wp2_with fail
        refine CC.out.mono ?_
        rintro e wn ⟨rfl, hwn⟩
        have KN := Lib.hid (bk_tr KB.out hwn)
        clear hwn
        cases bb with
        | false =>
          have EQ4 := EQ3.out
          rw [if_neg (by decide)] at EQ4
          subst EQ4
          go_wp2_with fail
          go_ret
          exact ⟨rfl, KN.out⟩
        | true =>
          have EQ4 := Lib.hid (show subB (ts.drop (k + 1)) (us.drop (k + 1)) = r from by have := EQ3.out; rwa [if_pos rfl] at this)
          go_wp2_with fail
          go_roundw
          case rel => exact ⟨k + 1, by have := HLT.out; omega, by go_num, EQ4.out, KN.out⟩
          case measure => have := HLT.out; simp [intOf]; omega
  · rw [subB_ne hn]
    have hne : ((ts.length : Int) != (us.length : Int)) = true := nn_cast hn
    clear hp hq ih hl
    generalize ts.length = n at *
    generalize us.length = m at *
    go_enter Tryd.func58, Tryd.ntmps58
    go_wp2_with fail
    go_ret
    exact ⟨rfl, BK.refl _⟩
end Go.Proofs.YtnlpiaejfmdckaaDoor
