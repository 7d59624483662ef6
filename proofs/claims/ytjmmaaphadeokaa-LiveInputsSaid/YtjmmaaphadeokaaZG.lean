/- The law of the inputs. -/
import Derived.Test.YtjmmaaphadeokaaZF
namespace Go.Proofs.Ytjmmaaphadeokaa
open Go.RowKit Go.Shelf
set_option linter.unusedVariables false
set_option linter.unusedSimpArgs false
/-- what stands in the law: the program and two lists of registers -/
structure IL (w w0 : World) (x0 x1 x2 x3 : Value) (s u : List Int) : Prop where
  c : B4 w0 w.heap.size x0 x1 x2 x3
  a : SU w0 (w.heap.size + 1) s
  b : SU w0 (w.heap.size + 2) u
  k : BK w w0
theorem IL.keep {w w0 w1 : World} {x0 x1 x2 x3 : Value} {s u : List Int} (h : IL w w0 x0 x1 x2 x3 s u) (hb : BK w0 w1) : IL w w1 x0 x1 x2 x3 s u := ⟨h.c.keep hb, h.a.keep hb, h.b.keep hb, bk_tr h.k hb⟩
theorem IL.set {w w0 : World} {x0 x1 x2 x3 : Value} {s u : List Int} (h : IL w w0 x0 x1 x2 x3 s u) (j : Nat) (x : Int) : IL w (w0.setCell ⟨w.heap.size + 2, j, none⟩ (.int .u64 x)) x0 x1 x2 x3 s (u.set j x) :=
  ⟨h.c.other _ _ (by show w.heap.size ≠ w.heap.size + 2; omega), h.a.other _ _ (by show w.heap.size + 1 ≠ w.heap.size + 2; omega), h.b.set j x, bk_set h.k _ _ (by show w.heap.size ≤ w.heap.size + 2; omega)⟩
theorem su_apart {w : World} {B b o : Nat} {s : List Int} {z : Int} (h : SU w B s) (hc : w.cell? ⟨b, o, none⟩ = some (.int .i64 z)) : b ≠ B := by
  intro e; subst e
  rw [cell_of_row w _ _ _ _ _ h] at hc
  by_cases h8 : o < s.length
  · rw [ua_get _ _ h8] at hc; cases hc
  · rw [show (ua s)[o]? = none from by rw [Array.getElem?_eq_none]; rw [ua_size]; omega] at hc; cases hc
set_option maxRecDepth 100000 in
set_option maxHeartbeats 20000000 in
theorem ilaw (W R : Int) (p q : Option Addr) (pc qc : Nat) (ins : List I6) (out : List Int) (s t : List Int) (w : World) (hi : RI w p pc ins) (ho : RO w q qc out) (li : ins.length ≤ 300) (lo : out.length ≤ 20) (hv : Vd W R ins out) (hs : s.length = 8) (ht : t.length = 8) :
    Calls Try.prog 7 #[.agg #[.int .i64 W, .int .i64 R, .slice p ins.length pc, .slice q out.length qc], .agg (ua s), .agg (ua t)] w fun e w' => e = .returned (.bool true) ∧ BK w w' := by
  have a1 := ((SU.new (w.alloc (.cells #[.int .i64 W, .int .i64 R, .slice p ins.length pc, .slice q out.length qc] 25)) s).old (.cells (ua t) 45))
  rw [sz1] at a1
  have a2 := SU.new ((w.alloc (.cells #[.int .i64 W, .int .i64 R, .slice p ins.length pc, .slice q out.length qc] 25)).alloc (.cells (ua s) 45)) t
  rw [sz1, sz1] at a2
  have b4 := (b4_new w (.int .i64 W) (.int .i64 R) (.slice p ins.length pc) (.slice q out.length qc) 25).keep (bk_alloc (bk_alloc (BK.refl _) (.cells (ua s) 45)) (.cells (ua t) 45))
  have k0 := bk_alloc (bk_alloc (bk_alloc (BK.refl w) (.cells #[.int .i64 W, .int .i64 R, .slice p ins.length pc, .slice q out.length qc] 25)) (.cells (ua s) 45)) (.cells (ua t) 45)
  have il : IL w (((w.alloc (.cells #[.int .i64 W, .int .i64 R, .slice p ins.length pc, .slice q out.length qc] 25)).alloc (.cells (ua s) 45)).alloc (.cells (ua t) 45)) (.int .i64 W) (.int .i64 R) (.slice p ins.length pc) (.slice q out.length qc) s t := ⟨b4, a1, a2, k0⟩
  have L1 := Lib.hid (fun wc => by have := light10 W R p q pc qc ins.length out.length wc; rw [show lightB ins.length out.length = true from decide_eq_true ⟨li, lo⟩] at this; exact this)
  have C28 := Lib.hid (fun (wc : World) (hb : BK w wc) => by have := rchk28 W R p q pc qc ins out wc (hi.keep hb) (ho.keep hb) (by omega) (by omega); rw [chk_zero.2 hv] at this; exact this)
  have H16 := Lib.hid (fun (wc : World) (hb : BK w wc) => inputs16 W R p q pc qc ins out wc (hi.keep hb) (ho.keep hb) li lo)
  have h1 := hv.w1
  have h2 := hv.w2
  have R29 := Lib.hid (fun (u : List Int) (hu : u.length = 8) (wc : World) (hb : BK w wc) => (run29 W R p q pc qc out.length ins u wc (hi.keep hb) li hu h1 h2 hv.rg).mono (R' := RunQ W ins u wc) fun e w' h => runQ h)
  have HO := Lib.hid ho
  have hR := hv.r2
  have OI := Lib.hid hv.oin
  have LI := Lib.hid (live_in hv)
  have L8 := inp_len8 W R ins out
  have PU := Lib.hid (fun x => inputs_pure (x := x) hv hs ht)
  have HS := Lib.hid hs
  have HT := Lib.hid ht
  clear a1 a2 b4 k0 hi ho hv hs ht
  generalize inpL W R ins out = L at H16 LI L8 PU
  go_enter Try.func7, Try.ntmps7
  go_upto_region 1 with (fail)
  generalize ((w.alloc (.cells #[.int .i64 W, .int .i64 R, .slice p ins.length pc, .slice q out.length qc] 25)).alloc (.cells (ua s) 45)).alloc (.cells (ua t) 45) = w0 at il ⊢
  rw [show w.heap.size + 1 + 1 = w.heap.size + 2 from rfl]
  have I0 := Lib.hid il
  obtain ⟨c0, c1, c2, c3⟩ := il.c
  clear il
  go_wp2_with fail
  refine (L1.out w0).mono ?_
  rintro e w1 ⟨rfl, hb1⟩
  have I1 := Lib.hid (I0.out.keep hb1)
  clear hb1 c0 c1 c2 c3
  obtain ⟨c0, c1, c2, c3⟩ := I1.out.c
  go_wp2_with fail
  refine (C28.out w1 I1.out.k).mono ?_
  rintro e w2 ⟨rfl, hb2⟩
  have I2 := Lib.hid (I1.out.keep hb2)
  clear hb2 c0 c1 c2 c3
  obtain ⟨c0, c1, c2, c3⟩ := I2.out.c
  go_wp2_with fail
  refine (H16.out w2 I2.out.k).mono ?_
  rintro e w3 ⟨v3, rfl, ho3, hb3⟩
  obtain ⟨p3, pc3, rfl⟩ := own_shape ho3
  have I3 := Lib.hid (I2.out.keep hb3)
  have O3 := Lib.hid (RO.own ho3)
  have hle3 := O3.out.le
  clear hb3 ho3 c0 c1 c2 c3
  obtain ⟨c0, c1, c2, c3⟩ := I3.out.c
  go_wp2_with fail
  clear c0 c1 c2 c3
  go_loopw [27] (fun i wr => ∃ k : Nat, k ≤ L.length ∧ i = .int .i64 k ∧ IL w wr (.int .i64 W) (.int .i64 R) (.slice p ins.length pc) (.slice q out.length qc) s (mixL s t (L.take k)) ∧ RO wr p3 pc3 L) (fun i _ => L.length - (intOf i).toNat)
  case atStart => exact ⟨0, Nat.zero_le _, rfl, I3.out, O3.out⟩
  case round =>
    obtain ⟨k, hk, rfl, hil, hro⟩ := hrel
    have IK := Lib.hid hil
    have OK := Lib.hid hro
    by_cases hlt : k < L.length
    · obtain ⟨bl, ol, rfl, hc⟩ := hro.get k hlt
      have hne := Lib.hid (su_apart hil.b hc)
      have hy := LI.out L[k] (List.getElem_mem hlt)
      have HSN := Lib.hid (fun (r : Nat) (e : L[k] = r) (h : r < s.length) => (mixL_snoc s t (L.take k) r h).trans (show _ = mixL s t (L.take (k + 1)) by rw [List.take_succ_eq_append_getElem hlt, e]))
      obtain ⟨c0, c1, c2, c3⟩ := hil.c
      clear hil hro
      generalize L[k] = y at hc hy HSN
      obtain ⟨r, rfl⟩ : ∃ r : Nat, y = r := ⟨y.toNat, by omega⟩
      have rs : r < s.length := by have := HS.out; omega
      have r0 : (0 : Int) ≤ r := by omega
      have r8 : (r : Int) < 8 := by omega
      have rR : (r : Int) < R := hy.2
      have HSN2 := Lib.hid (HSN.out r rfl rs)
      clear HSN hy
      go_upto_region 7 with (fail)
      go_quiet (fail)
      go_upto_region 9 with (fail)
      have kN := bk_drewN (BK.refl wr) nq
      have hcN := (kN.bl.cell (p := ⟨bl, ol + k, none⟩) (World.block_lt_of_cell? _ _ hc)).trans hc
      have IN := Lib.hid (IK.out.keep kN)
      have ON := Lib.hid (OK.out.keep kN)
      clear kN
      generalize wr.drewN nq = wq at hcN IN ON ⊢
      refine wp_region_held_drew (S := fun w' => w'.cell? ⟨bl, ol + k, none⟩ = some (.int .i64 (r : Int)) ∧ SU w' (w.heap.size + 1) s) (by kernel_rfl) (⟨((bk_drew (BK.refl wq)).bl.cell (p := ⟨bl, ol + k, none⟩) (World.block_lt_of_cell? _ _ hcN)).trans hcN, IN.out.a.keep (bk_drew (BK.refl wq))⟩) (fun hHeld => ?_)
      have hkI := bk_drew (BK.refl wq)
      generalize wq.drew = wI at hHeld hkI ⊢
      refine wpAnyH_take (i := 0) (v := .slice (some ⟨bl, ol, none⟩) L.length pc3) rfl (by kernel_rfl) (by kernel_rfl) (by kernel_rfl) (fun _ _ _ h => h) (Or.inl ⟨by kernel_rfl, fun w hSw => by (go_simp)⟩) hHeld ?_
      try simp only [Act.put, List.setIfInBounds_toArray, List.set_cons_zero, List.set_cons_succ]
      refine wpAnyH_take (i := 1) (v := .int .i64 (k : Int)) rfl (by kernel_rfl) (by kernel_rfl) (by kernel_rfl) (fun _ _ _ h => h) (Or.inl ⟨by kernel_rfl, fun w hSw => by (go_simp)⟩) hHeld ?_
      try simp only [Act.put, List.setIfInBounds_toArray, List.set_cons_zero, List.set_cons_succ]
      refine wpAnyH_take (i := 2) (v := .pointer (some ⟨bl, ol + k, none⟩)) rfl (by kernel_rfl) (by kernel_rfl) (by kernel_rfl) (fun _ _ _ h => h) (Or.inl ⟨by kernel_rfl, fun w hSw => by (go_simp)⟩) hHeld ?_
      try simp only [Act.put, List.setIfInBounds_toArray, List.set_cons_zero, List.set_cons_succ]
      refine wpAnyH_take (i := 3) (v := .int .i64 (r : Int)) rfl (by kernel_rfl) (by kernel_rfl) (by kernel_rfl) (fun _ _ _ h => h) (Or.inl ⟨by kernel_rfl, fun w hSw => by (have q0 := hSw.1; go_simp)⟩) hHeld ?_
      try simp only [Act.put, List.setIfInBounds_toArray, List.set_cons_zero, List.set_cons_succ]
      refine wpAnyH_take (i := 4) (v := .slice (some ⟨bl, ol, none⟩) L.length pc3) rfl (by kernel_rfl) (by kernel_rfl) (by kernel_rfl) (fun _ _ _ h => h) (Or.inl ⟨by kernel_rfl, fun w hSw => by (go_simp)⟩) hHeld ?_
      try simp only [Act.put, List.setIfInBounds_toArray, List.set_cons_zero, List.set_cons_succ]
      refine wpAnyH_take (i := 5) (v := .int .i64 (k : Int)) rfl (by kernel_rfl) (by kernel_rfl) (by kernel_rfl) (fun _ _ _ h => h) (Or.inl ⟨by kernel_rfl, fun w hSw => by (go_simp)⟩) hHeld ?_
      try simp only [Act.put, List.setIfInBounds_toArray, List.set_cons_zero, List.set_cons_succ]
      refine wpAnyH_take (i := 6) (v := .pointer (some ⟨bl, ol + k, none⟩)) rfl (by kernel_rfl) (by kernel_rfl) (by kernel_rfl) (fun _ _ _ h => h) (Or.inl ⟨by kernel_rfl, fun w hSw => by (go_simp)⟩) hHeld ?_
      try simp only [Act.put, List.setIfInBounds_toArray, List.set_cons_zero, List.set_cons_succ]
      refine wpAnyH_take (i := 7) (v := .int .i64 (r : Int)) rfl (by kernel_rfl) (by kernel_rfl) (by kernel_rfl) (fun _ _ _ h => h) (Or.inl ⟨by kernel_rfl, fun w hSw => by (have q0 := hSw.1; go_simp)⟩) hHeld ?_
      try simp only [Act.put, List.setIfInBounds_toArray, List.set_cons_zero, List.set_cons_succ]
      refine wpAnyH_take (i := 8) (v := .pointer (some ⟨w.heap.size + 1, r, none⟩)) rfl (by kernel_rfl) (by kernel_rfl) (by kernel_rfl) (fun _ _ _ h => h) (Or.inl ⟨by kernel_rfl, fun w hSw => by (go_simp)⟩) hHeld ?_
      try simp only [Act.put, List.setIfInBounds_toArray, List.set_cons_zero, List.set_cons_succ]
      refine wpAnyH_take (i := 9) (v := .int .u64 s[r]) rfl (by kernel_rfl) (by kernel_rfl) (by kernel_rfl) (fun _ _ _ h => h) (Or.inl ⟨by kernel_rfl, fun w hSw => by (have q1 := hSw.2.cell r rs; go_simp)⟩) hHeld ?_
      try simp only [Act.put, List.setIfInBounds_toArray, List.set_cons_zero, List.set_cons_succ]
      refine wpAnyH_take (i := 10) (v := .pointer (some ⟨w.heap.size + 2, r, none⟩)) rfl (by kernel_rfl) (by kernel_rfl) (by kernel_rfl) (fun _ _ _ h => h) (Or.inl ⟨by kernel_rfl, fun w hSw => by (go_simp)⟩) hHeld ?_
      try simp only [Act.put, List.setIfInBounds_toArray, List.set_cons_zero, List.set_cons_succ]
      have rI := IN.out.keep hkI
      have ed := rI.b.cell r (by rw [mixL_len, HT.out]; omega)
      have fd := rI.b.frozen r
      have HN := Lib.hid (rI.set r s[r])
      rw [HSN2.out] at HN
      have ONI := Lib.hid ((ON.out.keep hkI).other ⟨w.heap.size + 2, r, none⟩ (.int .u64 s[r]) (fun b' o' e => by simp only [Option.some.injEq, Addr.mk.injEq, and_true] at e; rw [← e.1]; exact hne.out))
      clear rI
      generalize s[r] = zs at HN ONI ⊢
      generalize (mixL s t (L.take k))[r]'_ = zd at ed
      refine wpAnyH_ready (rs := [11]) (by kernel_rfl) (by simp) ?_
      refine AllReadyH.cons (o := _) rfl (fun K9 hK9 => ?_) AllReadyH.nil
      go_simp
      refine hK9.out _ _ (⟨(World.cell?_setCell_far _ _ _ _ (fun e => hne.out e.symm)).trans hHeld.1, hHeld.2.other _ _ (by show w.heap.size + 1 ≠ w.heap.size + 2; omega)⟩) (fun hHeld => ?_)
      clear hK9 K9
      try simp only [Act.put, List.setIfInBounds_toArray, List.set_cons_zero, List.set_cons_succ]
      refine wpAnyH_done (by kernel_rfl) ?_ _
      clear hHeld ed fd hcN c0 c1 c2 c3 hc
      go_wp2_with fail
      go_roundw
      case rel => first | exact ⟨k + 1, by omega, by go_num, HN.out, ONI.out⟩ | (exact ⟨_, _, _, _, _, _, _, _, _, _, _, _, ⟨k + 1, by omega, by go_num, HN.out, ONI.out⟩, rfl⟩)
      case measure => simp [intOf]; omega
    · obtain rfl : k = L.length := by omega
      rw [List.take_length] at IK
      clear hil hro
      go_upto_region 11 with (fail)
      obtain ⟨c0, c1, c2, c3⟩ := IK.out.c
      have A1 := Lib.hid IK.out.a
      go_upto_region 12 with (first
        | (refine wpList_load_row rfl 45 _ rfl (w.heap.size + 1) rfl 45 (ua s) (0, 0) _ A1.out Try.underlying45 rfl (by rw [ua_size, HS.out]; kernel_rfl) ?_)
        | (go_at_call 29; refine (R29.out s HS.out wr IK.out.k).mono ?_; rintro e w5 ⟨x, hx8, hxv, rfl, hb5⟩; have X8 := Lib.hid hx8; have XV := Lib.hid hxv; have HB5 := Lib.hid hb5; clear hx8 hxv hb5)
        | (refine wpList_store_row rfl 45 _ _ rfl w5.heap.size (ua x) rfl rfl 45 _ (heap_alloc_last _ _) (by rw [ua_size, X8.out]; kernel_rfl) (by rw [ua_size, X8.out]; rfl) (ua_one _) ?_; rw [World.setRow_alloc_new]))
      clear c0 c1 c2 c3
      have I5 := Lib.hid ((IK.out.keep HB5.out).keep (bk_alloc (BK.refl w5) (.cells (ua x) 45)))
      have X5 := Lib.hid (SU.new w5 x)
      generalize w5.alloc (.cells (ua x) 45) = w6 at I5 X5 ⊢
      generalize w5.heap.size = XB at X5 ⊢
      obtain ⟨c0, c1, c2, c3⟩ := I5.out.c
      have M8 := Lib.hid (show (mixL s t L).length = 8 by rw [mixL_len, HT.out])
      have B1 := Lib.hid I5.out.b
      go_upto_region 13 with (first
        | (refine wpList_load_row rfl 45 _ rfl (w.heap.size + 2) rfl 45 (ua (mixL s t L)) (0, 0) _ B1.out Try.underlying45 rfl (by rw [ua_size, M8.out]; kernel_rfl) ?_)
        | (go_at_call 29; refine (R29.out (mixL s t L) M8.out w6 I5.out.k).mono ?_; rintro e w7 ⟨y, hy8, hyv, rfl, hb7⟩; have Y8 := Lib.hid hy8; have YV := Lib.hid hyv; have HB7 := Lib.hid hb7; clear hy8 hyv hb7)
        | (refine wpList_store_row rfl 45 _ _ rfl w7.heap.size (ua y) rfl rfl 45 _ (heap_alloc_last _ _) (by rw [ua_size, Y8.out]; kernel_rfl) (by rw [ua_size, Y8.out]; rfl) (ua_one _) ?_; rw [World.setRow_alloc_new]))
      clear c0 c1 c2 c3
      have I8 := Lib.hid ((I5.out.keep HB7.out).keep (bk_alloc (BK.refl w7) (.cells (ua y) 45)))
      have X8' := Lib.hid ((X5.out.keep HB7.out).keep (bk_alloc (BK.refl w7) (.cells (ua y) 45)))
      have Y8' := Lib.hid (SU.new w7 y)
      generalize w7.alloc (.cells (ua y) 45) = w8 at I8 X8' Y8' ⊢
      generalize w7.heap.size = YB at Y8' ⊢
      have XY := Lib.hid (fun (h : (runM (valV W) ins (cutS W s)).isSome = true) => show ∀ r ∈ out, gR x r = gR y r by
        obtain ⟨x', hx'⟩ := Option.isSome_iff_exists.1 h
        obtain ⟨y', h3, h4⟩ := PU.out x' hx'
        rw [XV.out x' hx', YV.out y' h3]; exact h4)
      clear XV YV PU
      generalize (runM (valV W) ins (cutS W s)).isSome = oa at XY ⊢
      generalize (runM (valV W) ins (cutS W (mixL s t L))).isSome = ob
      have LV := Lib.hid lives11
      cases oa
      · go_wp2_with (go_at_call 11; refine (LV.out _).mono ?_; rintro e w9 ⟨rfl, hb9⟩; have HB9 := Lib.hid hb9; clear hb9)
        go_ret
        exact ⟨rfl, bk_tr I8.out.k HB9.out⟩
      · cases ob
        · go_wp2_with (go_at_call 11; refine (LV.out _).mono ?_; rintro e w9 ⟨rfl, hb9⟩; have HB9 := Lib.hid hb9; clear hb9)
          go_ret
          exact ⟨rfl, bk_tr I8.out.k HB9.out⟩
        · have EQ := Lib.hid (XY.out rfl)
          clear XY
          obtain ⟨c0, c1, c2, c3⟩ := I8.out.c
          go_wp2_with fail
          clear c0 c1 c2 c3
          go_loopw [78] (fun i wr => ∃ k : Nat, k ≤ out.length ∧ i = .int .i64 k ∧ BK w8 wr) (fun i _ => out.length - (intOf i).toNat)
          case atStart => exact ⟨0, Nat.zero_le _, rfl, BK.refl _⟩
          case round =>
            rename_i wz _
            obtain ⟨k, hk, rfl, hbk⟩ := hrel
            have HBK := Lib.hid hbk
            have IZ := Lib.hid (I8.out.keep hbk)
            have XZ := Lib.hid (X8'.out.keep hbk)
            have YZ := Lib.hid (Y8'.out.keep hbk)
            clear hbk
            by_cases hlt : k < out.length
            · obtain ⟨bo, oo, rfl, hc⟩ := (HO.out.keep IZ.out.k).get k hlt
              have hy := OI.out out[k] (List.getElem_mem hlt)
              have he := EQ.out out[k] (List.getElem_mem hlt)
              generalize out[k] = v at hc hy he
              obtain ⟨r, rfl⟩ : ∃ r : Nat, v = r := ⟨v.toNat, by omega⟩
              have rx : r < x.length := by have := X8.out; omega
              have ry : r < y.length := by have := Y8.out; omega
              rw [gR_nat r rx, gR_nat r ry] at he
              have r0 : (0 : Int) ≤ r := by omega
              have r8 : (r : Int) < 8 := by omega
              have ex := XZ.out.cell r rx
              have ey := YZ.out.cell r ry
              rw [he] at ex
              generalize y[r] = zz at ex ey
              obtain ⟨c0, c1, c2, c3⟩ := IZ.out.c
              clear hy he
              go_upto_region 18 with (fail)
              go_quiet (fail)
              clear ex ey hc c0 c1 c2 c3
              go_wp2_with fail
              go_roundw
              case rel => exact ⟨k + 1, by omega, by go_num, bk_drewN HBK.out _⟩
              case measure => simp [intOf]; omega
            · obtain rfl : k = out.length := by omega
              go_wp2_with (go_at_call 11; refine (LV.out _).mono ?_; rintro e w9 ⟨rfl, hb9⟩; have HB9 := Lib.hid hb9; clear hb9)
              go_ret
              exact ⟨rfl, bk_tr IZ.out.k HB9.out⟩
end Go.Proofs.Ytjmmaaphadeokaa
