/- The law of Remove: no final value of Out changes, no trap is added, no instruction that is left is dead. -/
import Derived.Test.YtjmmaaphadeokaaZF
namespace Go.Proofs.Ytjmmaaphadeokaa
open Go.RowKit Go.Shelf
set_option linter.unusedVariables false
set_option linter.unusedSimpArgs false
/-- what stands in the law: the program and the registers -/
structure JL (w w0 : World) (x0 x1 x2 x3 : Value) (s : List Int) : Prop where
  c : B4 w0 w.heap.size x0 x1 x2 x3
  a : SU w0 (w.heap.size + 1) s
  k : BK w w0
theorem JL.keep {w w0 w1 : World} {x0 x1 x2 x3 : Value} {s : List Int} (h : JL w w0 x0 x1 x2 x3 s) (hb : BK w0 w1) : JL w w1 x0 x1 x2 x3 s := ⟨h.c.keep hb, h.a.keep hb, bk_tr h.k hb⟩
/-- the second program of a law -/
structure DL (w0 : World) (D : Nat) (x0 x1 : Value) (p : Option Addr) (pc : Nat) (q : Option Addr) (qc : Nat) (L : List I6) (out : List Int) : Prop where
  c : B4 w0 D x0 x1 (.slice p L.length pc) (.slice q out.length qc)
  i : RI w0 p pc L
  o : RO w0 q qc out
theorem DL.keep {w0 w1 : World} {D : Nat} {x0 x1 : Value} {p : Option Addr} {pc : Nat} {q : Option Addr} {qc : Nat} {L : List I6} {out : List Int} (h : DL w0 D x0 x1 p pc q qc L out) (hb : BK w0 w1) : DL w1 D x0 x1 p pc q qc L out := ⟨h.c.keep hb, h.i.keep hb, h.o.keep hb⟩
theorem agr_out {W R : Int} {ins : List I6} {out : List Int} (h : Vd W R ins out) {x y : List Int} (h2 : Agr (fun r => hasB out r) x y) : ∀ r ∈ out, gR x r = gR y r := fun r hr => by
  have := h.oin r hr
  have := h.r2
  exact h2 r (by omega) (by omega) (hasB_mem.2 hr)
theorem removes_pure {W R : Int} {ins : List I6} {out : List Int} (h : Vd W R ins out) {s x : List Int} (hs : s.length = 8) (hx : runM (valV W) ins (cutS W s) = some x) :
    ∃ y, runM (valV W) (removeL out ins) (cutS W s) = some y ∧ ∀ r ∈ out, gR x r = gR y r := by
  obtain ⟨y, h1, h2⟩ := removeM (valV_one W) out h.iv (s := cutS W s) (t := cutS W s) (by rw [cutS_len, hs]) (by rw [cutS_len, hs]) (fun r _ _ _ => rfl) hx
  exact ⟨y, h1, agr_out h h2⟩
set_option maxRecDepth 100000 in
set_option maxHeartbeats 20000000 in
theorem mlaw (W R : Int) (p q : Option Addr) (pc qc : Nat) (ins : List I6) (out : List Int) (s : List Int) (w : World) (hi : RI w p pc ins) (ho : RO w q qc out) (l40 : ins.length ≤ 40) (lo : out.length ≤ 20) (hv : Vd W R ins out) (hs : s.length = 8) :
    Calls Try.prog 8 #[.agg #[.int .i64 W, .int .i64 R, .slice p ins.length pc, .slice q out.length qc], .agg (ua s)] w fun e w' => e = .returned (.bool true) ∧ BK w w' := by
  have li : ins.length ≤ 300 := by omega
  have a1 := SU.new (w.alloc (.cells #[.int .i64 W, .int .i64 R, .slice p ins.length pc, .slice q out.length qc] 25)) s
  rw [sz1] at a1
  have b4 := (b4_new w (.int .i64 W) (.int .i64 R) (.slice p ins.length pc) (.slice q out.length qc) 25).keep (bk_alloc (BK.refl _) (.cells (ua s) 45))
  have k0 := bk_alloc (bk_alloc (BK.refl w) (.cells #[.int .i64 W, .int .i64 R, .slice p ins.length pc, .slice q out.length qc] 25)) (.cells (ua s) 45)
  have il : JL w ((w.alloc (.cells #[.int .i64 W, .int .i64 R, .slice p ins.length pc, .slice q out.length qc] 25)).alloc (.cells (ua s) 45)) (.int .i64 W) (.int .i64 R) (.slice p ins.length pc) (.slice q out.length qc) s := ⟨b4, a1, k0⟩
  have L1 := Lib.hid (fun wc => by have := light10 W R p q pc qc ins.length out.length wc; rw [show lightB ins.length out.length = true from decide_eq_true ⟨li, lo⟩] at this; exact this)
  have C28 := Lib.hid (fun (wc : World) (hb : BK w wc) => by have := rchk28 W R p q pc qc ins out wc (hi.keep hb) (ho.keep hb) (by omega) (by omega); rw [chk_zero.2 hv] at this; exact this)
  have C19 := Lib.hid (fun (wc : World) (hb : BK w wc) => remove19_ok W R p q pc qc ins out wc (hi.keep hb) (ho.keep hb) lo hv)
  have h1 := hv.w1
  have h2 := hv.w2
  have R29 := Lib.hid (fun (wc : World) (hb : BK w wc) => (run29 W R p q pc qc out.length ins s wc (hi.keep hb) li hs h1 h2 hv.rg).mono (R' := RunQ W ins s wc) fun e w' h => runQ h)
  have HO := Lib.hid ho
  have OI := Lib.hid (fun r (hr : r ∈ out) => show 0 ≤ r ∧ r < 8 by have := hv.oin r hr; have := hv.r2; omega)
  have VL := Lib.hid hv.removed
  have LL := removeL_len out ins
  have LA := Lib.hid (removeL_alive out ins)
  have PU := Lib.hid (fun x => removes_pure (x := x) hv hs)
  have HS := Lib.hid hs
  have LV := Lib.hid lives11
  clear a1 b4 k0 hi ho hv hs
  generalize removeL out ins = L at C19 VL LL LA PU
  have D28 := Lib.hid (fun (wc : World) (p' q' : Option Addr) (pc' qc' : Nat) (hi : RI wc p' pc' L) (ho : RO wc q' qc' out) => by have := rchk28 W R p' q' pc' qc' L out wc hi ho (by omega) (by omega); rw [chk_zero.2 VL.out] at this; exact this)
  have D29 := Lib.hid (fun (wc : World) (p' q' : Option Addr) (pc' qc' : Nat) (hi : RI wc p' pc' L) => (run29 W R p' q' pc' qc' out.length L s wc hi (by omega) HS.out h1 h2 VL.out.rg).mono (R' := RunQ W L s wc) fun e w' h => runQ h)
  have D14 := Lib.hid (fun (wc : World) (q' : Option Addr) (qc' : Nat) (ha : RO wc q qc out) (ho : RO wc q' qc' out) => by have := same14 out out q q' qc qc' wc ha ho (by omega) (by omega); rw [eqL_own] at this; exact this)
  have D21 := Lib.hid (fun (wc : World) (p' q' : Option Addr) (pc' qc' : Nat) (hi : RI wc p' pc' L) (ho : RO wc q' qc' out) (k : Nat) (hk : k < L.length) => by have := dead21_ok W R p' q' pc' qc' L out wc hi ho VL.out lo k hk; rw [LA.out k hk] at this; exact this)
  have t1 : ¬ (40 : Int) < (ins.length : Int) := by omega
  have t2 : ¬ (ins.length : Int) < (L.length : Int) := by omega
  clear VL LA
  go_enter Try.func8, Try.ntmps8
  go_upto_region 1 with (fail)
  generalize (w.alloc (.cells #[.int .i64 W, .int .i64 R, .slice p ins.length pc, .slice q out.length qc] 25)).alloc (.cells (ua s) 45) = w0 at il ⊢
  have I0 := Lib.hid il
  obtain ⟨c0, c1, c2, c3⟩ := il.c
  clear il
  go_wp2_with fail
  refine (L1.out w0).mono ?_
  rintro e w1 ⟨rfl, hb1⟩
  have I1 := Lib.hid (I0.out.keep hb1)
  clear hb1 c0 c1 c2 c3
  obtain ⟨c0, c1, c2, c3⟩ := I1.out.c
  go_wp2_with fail
  refine (C28.out w1 I1.out.k).mono ?_
  rintro e w2 ⟨rfl, hb2⟩
  have I2 := Lib.hid (I1.out.keep hb2)
  clear hb2 c0 c1 c2 c3
  obtain ⟨c0, c1, c2, c3⟩ := I2.out.c
  go_wp2_with fail
  refine (C19.out w2 I2.out.k).mono ?_
  rintro e w3 ⟨p', pc', q', qc', rfl, hri, hro, hb3⟩
  have I3 := Lib.hid (I2.out.keep hb3)
  have RI3 := Lib.hid hri
  have RO3 := Lib.hid hro
  clear hb3 hri hro c0 c1 c2 c3
  go_upto_region 4 with (fail)
  have I4 := Lib.hid (I3.out.keep (bk_alloc (BK.refl w3) (.cells #[.int .i64 W, .int .i64 R, .slice p' L.length pc', .slice q' out.length qc'] 25)))
  have DL4 : DL (w3.alloc (.cells #[.int .i64 W, .int .i64 R, .slice p' L.length pc', .slice q' out.length qc'] 25)) w3.heap.size (.int .i64 W) (.int .i64 R) p' pc' q' qc' L out := ⟨b4_new w3 (.int .i64 W) (.int .i64 R) (.slice p' L.length pc') (.slice q' out.length qc') 25, RI3.out.keep (bk_alloc (BK.refl _) _), RO3.out.keep (bk_alloc (BK.refl _) _)⟩
  generalize w3.alloc (.cells #[.int .i64 W, .int .i64 R, .slice p' L.length pc', .slice q' out.length qc'] 25) = w4 at I4 DL4 ⊢
  generalize w3.heap.size = D at DL4 ⊢
  have E4 := Lib.hid DL4
  obtain ⟨d0, d1, d2, d3⟩ := DL4.c
  obtain ⟨c0, c1, c2, c3⟩ := I4.out.c
  clear DL4
  go_wp2_with fail
  refine (D28.out w4 p' q' pc' qc' E4.out.i E4.out.o).mono ?_
  rintro e w5 ⟨rfl, hb5⟩
  have I5 := Lib.hid (I4.out.keep hb5)
  have E5 := Lib.hid (E4.out.keep hb5)
  clear hb5 c0 c1 c2 c3 d0 d1 d2 d3
  obtain ⟨d0, d1, d2, d3⟩ := E5.out.c
  obtain ⟨c0, c1, c2, c3⟩ := I5.out.c
  go_wp2_with fail
  refine (D14.out w5 q' qc' (HO.out.keep I5.out.k) E5.out.o).mono ?_
  rintro e w6 ⟨rfl, hb6⟩
  have I6 := Lib.hid (I5.out.keep hb6)
  have E6 := Lib.hid (E5.out.keep hb6)
  clear hb6 c0 c1 c2 c3 d0 d1 d2 d3
  obtain ⟨d0, d1, d2, d3⟩ := E6.out.c
  obtain ⟨c0, c1, c2, c3⟩ := I6.out.c
  go_wp2_with fail
  clear c0 c1 c2 c3 d0 d1 d2 d3
  try rw [show decide (ins.length < L.length) = false from decide_eq_false (by omega)]
  go_loopw [60] (fun i wr => ∃ k : Nat, k ≤ L.length ∧ i = .int .i64 k ∧ BK w6 wr) (fun i _ => L.length - (intOf i).toNat)
  case atStart => exact ⟨0, Nat.zero_le _, rfl, BK.refl _⟩
  case round =>
    rename_i wz _
    obtain ⟨k, hk, rfl, hbk⟩ := hrel
    have HBK := Lib.hid hbk
    have IZ := Lib.hid (I6.out.keep hbk)
    have EZ := Lib.hid (E6.out.keep hbk)
    clear hbk
    by_cases hlt : k < L.length
    · obtain ⟨d0, d1, d2, d3⟩ := EZ.out.c
      have H21 := Lib.hid (D21.out wr p' q' pc' qc' EZ.out.i EZ.out.o k hlt)
      go_wp2_with (go_at_call 21; refine H21.out.mono ?_; rintro e wd ⟨rfl, hbd⟩; have KD := Lib.hid (bk_tr HBK.out hbd); clear hbd d0 d1 d2 d3)
      go_roundw
      case rel => exact ⟨k + 1, by omega, by go_num, KD.out⟩
      case measure => simp [intOf]; omega
    · obtain rfl : k = L.length := by omega
      have A1 := Lib.hid IZ.out.a
      obtain ⟨c0, c1, c2, c3⟩ := IZ.out.c
      go_upto_region 13 with (first
        | (refine wpList_load_row rfl 45 _ rfl (w.heap.size + 1) rfl 45 (ua s) (0, 0) _ A1.out Try.underlying45 rfl (by rw [ua_size, HS.out]; kernel_rfl) ?_)
        | (go_at_call 29; refine (R29.out wr IZ.out.k).mono ?_; rintro e w5x ⟨x, hx8, hxv, rfl, hb5⟩; have x8 := Lib.hid hx8; have xV := Lib.hid hxv; have xB := Lib.hid hb5; clear hx8 hxv hb5)
        | (refine wpList_store_row rfl 45 _ _ rfl w5x.heap.size (ua x) rfl rfl 45 _ (heap_alloc_last _ _) (by rw [ua_size, x8.out]; kernel_rfl) (by rw [ua_size, x8.out]; rfl) (ua_one _) ?_; rw [World.setRow_alloc_new]))
      clear c0 c1 c2 c3
      have I7 := Lib.hid ((IZ.out.keep xB.out).keep (bk_alloc (BK.refl w5x) (.cells (ua x) 45)))
      have E7 := Lib.hid ((EZ.out.keep xB.out).keep (bk_alloc (BK.refl w5x) (.cells (ua x) 45)))
      have X5 := Lib.hid (SU.new w5x x)
      generalize w5x.alloc (.cells (ua x) 45) = w6x at I7 E7 X5 ⊢
      generalize w5x.heap.size = XB at X5 ⊢
      have B1 := Lib.hid I7.out.a
      obtain ⟨c0, c1, c2, c3⟩ := E7.out.c
      go_upto_region 14 with (first
        | (refine wpList_load_row rfl 45 _ rfl (w.heap.size + 1) rfl 45 (ua s) (0, 0) _ B1.out Try.underlying45 rfl (by rw [ua_size, HS.out]; kernel_rfl) ?_)
        | (go_at_call 29; refine (D29.out w6x p' q' pc' qc' E7.out.i).mono ?_; rintro e w7x ⟨y, hx8, hxv, rfl, hb5⟩; have y8 := Lib.hid hx8; have yV := Lib.hid hxv; have yB := Lib.hid hb5; clear hx8 hxv hb5)
        | (refine wpList_store_row rfl 45 _ _ rfl w7x.heap.size (ua y) rfl rfl 45 _ (heap_alloc_last _ _) (by rw [ua_size, y8.out]; kernel_rfl) (by rw [ua_size, y8.out]; rfl) (ua_one _) ?_; rw [World.setRow_alloc_new]))
      clear c0 c1 c2 c3
      have I8 := Lib.hid ((I7.out.keep yB.out).keep (bk_alloc (BK.refl w7x) (.cells (ua y) 45)))
      have X8' := Lib.hid ((X5.out.keep yB.out).keep (bk_alloc (BK.refl w7x) (.cells (ua y) 45)))
      have Y8' := Lib.hid (SU.new w7x y)
      generalize w7x.alloc (.cells (ua y) 45) = w8 at I8 X8' Y8' ⊢
      generalize w7x.heap.size = YB at Y8' ⊢
      have XY := Lib.hid (fun (h : (runM (valV W) ins (cutS W s)).isSome = true) => show (runM (valV W) L (cutS W s)).isSome = true ∧ ∀ r ∈ out, gR x r = gR y r by
        obtain ⟨x', hx'⟩ := Option.isSome_iff_exists.1 h
        obtain ⟨y', h3, h4⟩ := PU.out x' hx'
        rw [xV.out x' hx', yV.out y' h3, h3]; exact ⟨rfl, h4⟩)
      clear xV yV PU
      generalize (runM (valV W) ins (cutS W s)).isSome = oa at XY ⊢
      generalize (runM (valV W) L (cutS W s)).isSome = ob at XY ⊢
      cases oa
      · go_wp2_with (go_at_call 11; refine (LV.out _).mono ?_; rintro e w9 ⟨rfl, hb9⟩; have HB9 := Lib.hid hb9; clear hb9)
        go_ret
        exact ⟨rfl, bk_tr I8.out.k HB9.out⟩
      · obtain rfl : ob = true := (XY.out rfl).1
        have EQ := Lib.hid (XY.out rfl).2
        clear XY
        obtain ⟨c0, c1, c2, c3⟩ := I8.out.c
        go_wp2_with fail
        clear c0 c1 c2 c3
        go_loopw [85] (fun i wr => ∃ k : Nat, k ≤ out.length ∧ i = .int .i64 k ∧ BK w8 wr) (fun i _ => out.length - (intOf i).toNat)
        case atStart => exact ⟨0, Nat.zero_le _, rfl, BK.refl _⟩
        case round =>
          rename_i wz _
          obtain ⟨k, hk, rfl, hbk⟩ := hrel
          have HBK := Lib.hid hbk
          have IZ := Lib.hid (I8.out.keep hbk)
          have XZ := Lib.hid (X8'.out.keep hbk)
          have YZ := Lib.hid (Y8'.out.keep hbk)
          clear hbk
          by_cases hlt : k < out.length
          · obtain ⟨bo, oo, rfl, hc⟩ := (HO.out.keep IZ.out.k).get k hlt
            have hy := OI.out out[k] (List.getElem_mem hlt)
            have he := EQ.out out[k] (List.getElem_mem hlt)
            generalize out[k] = v at hc hy he
            obtain ⟨r, rfl⟩ : ∃ r : Nat, v = r := ⟨v.toNat, by omega⟩
            have rx : r < x.length := by have := x8.out; omega
            have ry : r < y.length := by have := y8.out; omega
            rw [gR_nat r rx, gR_nat r ry] at he
            have r0 : (0 : Int) ≤ r := by omega
            have r8 : (r : Int) < 8 := by omega
            have ex := XZ.out.cell r rx
            have ey := YZ.out.cell r ry
            rw [he] at ex
            generalize y[r] = zz at ex ey
            obtain ⟨c0, c1, c2, c3⟩ := IZ.out.c
            clear hy he
            go_upto_region 19 with (fail)
            go_quiet (fail)
            clear ex ey hc c0 c1 c2 c3
            go_wp2_with fail
            go_roundw
            case rel => exact ⟨k + 1, by omega, by go_num, bk_drewN HBK.out _⟩
            case measure => simp [intOf]; omega
          · obtain rfl : k = out.length := by omega
            go_wp2_with (go_at_call 11; refine (LV.out _).mono ?_; rintro e w9 ⟨rfl, hb9⟩; have HB9 := Lib.hid hb9; clear hb9)
            go_ret
            exact ⟨rfl, bk_tr IZ.out.k HB9.out⟩

end Go.Proofs.Ytjmmaaphadeokaa
