/- Undo of the last link: the walk. -/
import Derived.Test.YtpnjmkmobdaefaaN
import Derived.StillTailTactics
import Derived.BigRegion
namespace Go.Proofs.Ytpnjmkmobdaefaa
open Go.RowKit Go.Maps
set_option linter.unusedVariables false
set_option linter.unusedSimpArgs false
theorem FB.link0 {w : World} {B : Nat} {o : FO} {M : List L3} {N : Nat} (h : FB w B o M N) (hM : 0 < M.length) : ∃ g c, o.lv = .slice (some ⟨g, 0, none⟩) M.length c ∧ ∀ k (hk : k < M.length), A3 w g (k * 3) M[k] := by
  obtain ⟨g, c, hv⟩ := h.lform hM
  have hr : RL w (some ⟨g, 0, none⟩) c M := RL.own (n := M.length) (by have := h.links; rw [hv] at this; exact this)
  refine ⟨g, c, hv, fun k hk => ?_⟩
  obtain ⟨b, o', e1, e2⟩ := hr.get k hk
  cases e1
  rw [Nat.zero_add] at e2
  exact e2
theorem FB.lost0 {w : World} {B : Nat} {o : FO} {M : List L3} {N : Nat} (h : FB w B o M N) {C : List Int} {c : Int} (hC : o.C = C ++ [c]) : ∃ g cap, o.sv = .slice (some ⟨g, 0, none⟩) (C.length + 1) cap ∧ w.cell? ⟨g, C.length, none⟩ = some (.int .i64 c) := by
  have hr := h.lost
  rw [hC, List.length_append] at hr
  obtain ⟨g, cap, hv, _, _⟩ := hr.form (by simp)
  refine ⟨g, cap, hv, ?_⟩
  rw [hv] at hr
  have := World.ownsRow.cellAt (g := g) (cap := cap) hr C.length (by simp)
  rw [this, ints_snoc]
  simp [ints]
theorem Step.to_drew {w w' : World} {F F' : Nat → Prop} (h : Step w w' F F') : Step w w'.drew F F' := ⟨h.os, h.tape, h.output, h.size, h.block, h.sub⟩
theorem own_cap {w : World} {B e sz n c : Nat} {p : Option Addr} {xs : List Value} (o : w.ownsRow B e sz (.slice p n c) n xs) : n ≤ c := by
  rcases o.2 with ⟨h, h0⟩ | ⟨g, cap, cur, hv, hb, hg, h1, h2, h3, h4⟩
  · cases h; exact Nat.le_refl _
  · cases hv; exact h1
/-- the forest behind an undone link, put together -/
theorem undo_end {w w' : World} {B : Nat} {o o1 : FO} {M : List L3} {N : Nat} {l : L3} {C : List Int} {c x : Int} (h : FS w B o (M ++ [l]) N) (hx : o.up x = some M.length) (hOV : OV M.reverse C.reverse (put1 o.ov c none)) (f : FB w' B o1 M (N + 1)) (e1 : o1.up = upd o.up x none) (e2 : o1.ov = put1 o.ov c none) (e3 : o1.C = C) : FS w' B o1 M (N + 1) := by
  have hwf := h.wf
  rw [List.reverse_append] at hwf
  exact ⟨f, hwf.1, by rw [e1]; exact h.u.unlink hx, by rw [e2, e3]; exact hOV⟩

set_option maxRecDepth 100000 in
set_option maxHeartbeats 4000000 in
theorem undo27_a (w : World) (B : Nat) (o : FO) (M : List L3) (N : Nat) (l : L3) (h : FS w B o (M ++ [l]) N) (hN2 : N < 800000) (hk : M.length ≤ 900)  (hup : o.up l.a = some M.length) : Calls Try.prog 27 #[.pointer (some ⟨o.f, 0, none⟩)] w (ULP w B o M N) := by
  obtain ⟨C, c, r, hC, hCl, hov, hOV⟩ := h.last
  obtain ⟨g, cc1, e1, hA⟩ := h.fb.link0 (by simp)
  have hA := hA M.length (by simp)
  rw [List.getElem_append_right (Nat.le_refl _)] at hA
  simp only [Nat.sub_self, List.getElem_cons_zero] at hA
  obtain ⟨g2, cc2, e2, hL⟩ := h.fb.lost0 hC
  rw [hCl] at e2
  clear hL
  rw [List.length_append] at e1
  simp only [List.length_cons, List.length_nil, Nat.zero_add] at e1
  have hlo : okI l.a ∧ okI l.b := by have := h.fb.ok l (by simp); exact ⟨this.1, this.2.1⟩
  have hco : okI c := h.fb.okc c (by rw [hC]; simp)
  have hro : okI r := h.fb.mov.ok hco hov
  have lk := h.fb.mup.look hlo.1
  rw [upI_getD, upI_isSome] at lk
  rw [hup, hI_some] at lk
  have hxup : o.up l.a = some M.length := hup
  have hxo : okI l.a := hlo.1
  have c1 := h.fb.k1
  have c2 := h.fb.k2
  have c5 := h.fb.k5
  rw [e1] at c1
  rw [e2] at c5
  obtain ⟨A0, A1, A2⟩ := hA
  obtain ⟨D, hD, hRd⟩ := h.fb.mup
  have hkey := keyOf_int_mk Try.underlying3 (ok_wf hxo)
  have HH := Lib.hid h
  have HC := Lib.hid (And.intro hC hCl)
  have HOV := Lib.hid (And.intro hov hOV)
  have HXU := Lib.hid hxup
  have HE := Lib.hid (And.intro e1 e2)
  have HRD := Lib.hid hRd
  have HCO := Lib.hid hco
  have HRO := Lib.hid hro
  clear h hC hCl hov hOV hxup e1 e2 hRd hlo hco hro hxo hup
  obtain ⟨la, lb, ly⟩ := l
  dsimp only at *
  have ei : IntKind.i64.wrap ((M.length : Int) + 1 - 1) = (M.length : Int) := by rw [IntWalk.i64_in _ (by omega)]; omega
  generalize hn : M.length = n at *
  have HN := Lib.hid hn
  clear hn
  go_enter Try.func27, Try.ntmps27
  go_wp2_with (at_delete; refine wpList_delete_own _ rfl _ _ 49 3 rfl 3 keyLaw Try.underlying49 _ o.mu N D rfl hD _ _ rfl hkey ?_)
  intro w1 hD1 ht1
  obtain ⟨F1, ST1⟩ := HH.out.fb.mapU (up := upd o.up la none) ht1 ⟨_, hD1, by rw [← upI_put]; exact HRD.out.del la⟩ (Nat.le_refl _)
  have HF1 := Lib.hid F1
  have HST1 := Lib.hid ST1
  clear F1 ST1 hD hD1 ht1 lk c1 c2 c5 hkey A0 A1 A2
  -- the root that was put below
  obtain ⟨gg, cc, ee, hL⟩ := HF1.out.lost0 (o := { o with up := upd o.up la none }) HC.out.1
  dsimp only at ee hL
  obtain ⟨rfl, rfl⟩ : gg = g2 ∧ cc = cc2 := by
    have := ee.symm.trans HE.out.2
    simp only [Value.slice.injEq, Option.some.injEq, Addr.mk.injEq] at this
    exact ⟨this.1.1, this.2.2⟩
  rw [HC.out.2] at hL
  have c5 := HF1.out.k5
  dsimp only at c5
  rw [HE.out.2] at c5
  clear ee
  go_wp2_with fail
  -- the sizes
  have c4 := HF1.out.k4
  have c3 := HF1.out.k3
  have q0 := (HF1.out.mov.at (w' := w1.drew) rfl).look1 HCO.out
  dsimp only at c4 c3 q0
  rw [HOV.out.1] at q0
  simp only [Option.getD_some] at q0
  have q1 := (HF1.out.mbl.at (w' := w1.drew) rfl).look1 HRO.out
  have q2 := (HF1.out.mbl.at (w' := w1.drew) rfl).look1 HCO.out
  generalize hv1 : (Option.getD (FO.bl _ r) 0 : Int) = v1 at q1
  generalize hv2 : (Option.getD (FO.bl _ c) 0 : Int) = v2 at q2
  clear hv1 hv2
  obtain ⟨w2, run2, m2, t2⟩ := MP.store (HF1.out.mbl.at (w' := w1.drew) rfl) (by omega) (x := r) (v := IntKind.i64.wrap (v1 - IntKind.i64.wrap (v2 + 1))) HRO.out (wrap_ok _)
  obtain ⟨F2, ST2⟩ := FB.mapB (HF1.out.drew) t2 m2 (Nat.le_succ _)
  have HF2 := Lib.hid F2
  have HST2 := Lib.hid (HST1.out.trans ST2.drew)
  clear m2 t2 F2 ST2 HF1 HST1 hL c5
  dsimp only at q1 q2 run2
  go_still_tail 19, (by kernel_rfl)
  change wpList _ _ _ _ _ w1.drew
  generalize w1.drew = wz1 at run2 ⊢
  clear q0 q1 q2 c3 c4
  obtain ⟨D3, hD3, hRd3⟩ := HF2.out.mov
  have c3 := HF2.out.k3
  have hkey3 := keyOf_int_mk Try.underlying3 (ok_wf HCO.out)
  have HRD3 := Lib.hid hRd3
  dsimp only at c3 hD3
  clear hRd3
  go_wp2_with (at_delete; refine wpList_delete_own _ rfl _ _ 49 3 rfl 3 keyLaw Try.underlying49 _ o.mo (N + 1) D3 rfl hD3 _ _ rfl hkey3 ?_)
  intro w3 hD4 ht3
  obtain ⟨F3, ST3⟩ := HF2.out.mapO (ov := put1 o.ov c none) ht3 ⟨_, hD4, HRD3.out.del c⟩ (Nat.le_refl _)
  have HF3 := Lib.hid F3
  have HST3 := Lib.hid (HST2.out.trans ST3)
  clear F3 ST3 hD3 hD4 ht3 HRD3 HF2 HST2 run2 c3
  have c1 := HF3.out.k1
  have c5 := HF3.out.k5
  have f1 := HF3.out.free 1
  have f5 := HF3.out.free 5
  dsimp only at c1 c5 f1 f5
  rw [HE.out.1] at c1
  rw [HE.out.2] at c5
  obtain ⟨F4, ST4⟩ := HF3.out.cut HC.out.1 (HC.out.2.trans HN.out.symm) (by dsimp only; rw [HE.out.1, HN.out]) (by dsimp only; rw [HE.out.2, HN.out])
  dsimp only at F4 ST4
  rw [HN.out] at F4 ST4
  have HF4 := Lib.hid F4
  have HST4 := Lib.hid (HST3.out.trans ST4)
  clear F4 ST4
  have b1 := own_cap (by have := HF3.out.links; rw [List.length_append] at this; dsimp only at this; rw [HE.out.1, HN.out] at this; exact this)
  have b2 := own_cap (by have := HF3.out.lost; rw [HC.out.1, List.length_append] at this; dsimp only at this; rw [HE.out.2, HC.out.2] at this; exact this)
  have b3 : (n : Int) ≤ (cc1 : Int) := by omega
  have b4 : (n : Int) ≤ (cc : Int) := by omega
  clear HST3
  generalize hgen : w3 = w3' at *
  clear hgen
  go_wp2_with fail
  go_region
  go_end0
  exact ⟨rfl, _, by rfl, undo_end (c := c) (C := C) HH.out (by rw [HN.out]; exact HXU.out) HOV.out.2 HF4.out.drew rfl rfl rfl, HST4.out.to_drew⟩
set_option maxRecDepth 100000 in
set_option maxHeartbeats 4000000 in
theorem undo27_b (w : World) (B : Nat) (o : FO) (M : List L3) (N : Nat) (l : L3) (h : FS w B o (M ++ [l]) N) (hN2 : N < 800000) (hk : M.length ≤ 900) (hna : o.up l.a = none) (hup : o.up l.b = some M.length) : Calls Try.prog 27 #[.pointer (some ⟨o.f, 0, none⟩)] w (ULP w B o M N) := by
  obtain ⟨C, c, r, hC, hCl, hov, hOV⟩ := h.last
  obtain ⟨g, cc1, e1, hA⟩ := h.fb.link0 (by simp)
  have hA := hA M.length (by simp)
  rw [List.getElem_append_right (Nat.le_refl _)] at hA
  simp only [Nat.sub_self, List.getElem_cons_zero] at hA
  obtain ⟨g2, cc2, e2, hL⟩ := h.fb.lost0 hC
  rw [hCl] at e2
  clear hL
  rw [List.length_append] at e1
  simp only [List.length_cons, List.length_nil, Nat.zero_add] at e1
  have hlo : okI l.a ∧ okI l.b := by have := h.fb.ok l (by simp); exact ⟨this.1, this.2.1⟩
  have hco : okI c := h.fb.okc c (by rw [hC]; simp)
  have hro : okI r := h.fb.mov.ok hco hov
  have lk := h.fb.mup.look hlo.1
  rw [upI_getD, upI_isSome] at lk
  rw [hna, hI_none] at lk
  clear hna
  have hxup : o.up l.b = some M.length := hup
  have hxo : okI l.b := hlo.2
  have c1 := h.fb.k1
  have c2 := h.fb.k2
  have c5 := h.fb.k5
  rw [e1] at c1
  rw [e2] at c5
  obtain ⟨A0, A1, A2⟩ := hA
  obtain ⟨D, hD, hRd⟩ := h.fb.mup
  have hkey := keyOf_int_mk Try.underlying3 (ok_wf hxo)
  have HH := Lib.hid h
  have HC := Lib.hid (And.intro hC hCl)
  have HOV := Lib.hid (And.intro hov hOV)
  have HXU := Lib.hid hxup
  have HE := Lib.hid (And.intro e1 e2)
  have HRD := Lib.hid hRd
  have HCO := Lib.hid hco
  have HRO := Lib.hid hro
  clear h hC hCl hov hOV hxup e1 e2 hRd hlo hco hro hxo hup
  obtain ⟨la, lb, ly⟩ := l
  dsimp only at *
  have ei : IntKind.i64.wrap ((M.length : Int) + 1 - 1) = (M.length : Int) := by rw [IntWalk.i64_in _ (by omega)]; omega
  generalize hn : M.length = n at *
  have HN := Lib.hid hn
  clear hn
  go_enter Try.func27, Try.ntmps27
  go_wp2_with (at_delete; refine wpList_delete_own _ rfl _ _ 49 3 rfl 3 keyLaw Try.underlying49 _ o.mu N D rfl hD _ _ rfl hkey ?_)
  intro w1 hD1 ht1
  obtain ⟨F1, ST1⟩ := HH.out.fb.mapU (up := upd o.up lb none) ht1 ⟨_, hD1, by rw [← upI_put]; exact HRD.out.del lb⟩ (Nat.le_refl _)
  have HF1 := Lib.hid F1
  have HST1 := Lib.hid ST1
  clear F1 ST1 hD hD1 ht1 lk c1 c2 c5 hkey A0 A1 A2
  -- the root that was put below
  obtain ⟨gg, cc, ee, hL⟩ := HF1.out.lost0 (o := { o with up := upd o.up lb none }) HC.out.1
  dsimp only at ee hL
  obtain ⟨rfl, rfl⟩ : gg = g2 ∧ cc = cc2 := by
    have := ee.symm.trans HE.out.2
    simp only [Value.slice.injEq, Option.some.injEq, Addr.mk.injEq] at this
    exact ⟨this.1.1, this.2.2⟩
  rw [HC.out.2] at hL
  have c5 := HF1.out.k5
  dsimp only at c5
  rw [HE.out.2] at c5
  clear ee
  go_wp2_with fail
  -- the sizes
  have c4 := HF1.out.k4
  have c3 := HF1.out.k3
  have q0 := (HF1.out.mov.at (w' := w1.drew) rfl).look1 HCO.out
  dsimp only at c4 c3 q0
  rw [HOV.out.1] at q0
  simp only [Option.getD_some] at q0
  have q1 := (HF1.out.mbl.at (w' := w1.drew) rfl).look1 HRO.out
  have q2 := (HF1.out.mbl.at (w' := w1.drew) rfl).look1 HCO.out
  generalize hv1 : (Option.getD (FO.bl _ r) 0 : Int) = v1 at q1
  generalize hv2 : (Option.getD (FO.bl _ c) 0 : Int) = v2 at q2
  clear hv1 hv2
  obtain ⟨w2, run2, m2, t2⟩ := MP.store (HF1.out.mbl.at (w' := w1.drew) rfl) (by omega) (x := r) (v := IntKind.i64.wrap (v1 - IntKind.i64.wrap (v2 + 1))) HRO.out (wrap_ok _)
  obtain ⟨F2, ST2⟩ := FB.mapB (HF1.out.drew) t2 m2 (Nat.le_succ _)
  have HF2 := Lib.hid F2
  have HST2 := Lib.hid (HST1.out.trans ST2.drew)
  clear m2 t2 F2 ST2 HF1 HST1 hL c5
  dsimp only at q1 q2 run2
  go_still_tail 19, (by kernel_rfl)
  change wpList _ _ _ _ _ w1.drew
  generalize w1.drew = wz1 at run2 ⊢
  clear q0 q1 q2 c3 c4
  obtain ⟨D3, hD3, hRd3⟩ := HF2.out.mov
  have c3 := HF2.out.k3
  have hkey3 := keyOf_int_mk Try.underlying3 (ok_wf HCO.out)
  have HRD3 := Lib.hid hRd3
  dsimp only at c3 hD3
  clear hRd3
  go_wp2_with (at_delete; refine wpList_delete_own _ rfl _ _ 49 3 rfl 3 keyLaw Try.underlying49 _ o.mo (N + 1) D3 rfl hD3 _ _ rfl hkey3 ?_)
  intro w3 hD4 ht3
  obtain ⟨F3, ST3⟩ := HF2.out.mapO (ov := put1 o.ov c none) ht3 ⟨_, hD4, HRD3.out.del c⟩ (Nat.le_refl _)
  have HF3 := Lib.hid F3
  have HST3 := Lib.hid (HST2.out.trans ST3)
  clear F3 ST3 hD3 hD4 ht3 HRD3 HF2 HST2 run2 c3
  have c1 := HF3.out.k1
  have c5 := HF3.out.k5
  have f1 := HF3.out.free 1
  have f5 := HF3.out.free 5
  dsimp only at c1 c5 f1 f5
  rw [HE.out.1] at c1
  rw [HE.out.2] at c5
  obtain ⟨F4, ST4⟩ := HF3.out.cut HC.out.1 (HC.out.2.trans HN.out.symm) (by dsimp only; rw [HE.out.1, HN.out]) (by dsimp only; rw [HE.out.2, HN.out])
  dsimp only at F4 ST4
  rw [HN.out] at F4 ST4
  have HF4 := Lib.hid F4
  have HST4 := Lib.hid (HST3.out.trans ST4)
  clear F4 ST4
  have b1 := own_cap (by have := HF3.out.links; rw [List.length_append] at this; dsimp only at this; rw [HE.out.1, HN.out] at this; exact this)
  have b2 := own_cap (by have := HF3.out.lost; rw [HC.out.1, List.length_append] at this; dsimp only at this; rw [HE.out.2, HC.out.2] at this; exact this)
  have b3 : (n : Int) ≤ (cc1 : Int) := by omega
  have b4 : (n : Int) ≤ (cc : Int) := by omega
  clear HST3
  generalize hgen : w3 = w3' at *
  clear hgen
  go_wp2_with fail
  go_region
  go_end0
  exact ⟨rfl, _, by rfl, undo_end (c := c) (C := C) HH.out (by rw [HN.out]; exact HXU.out) HOV.out.2 HF4.out.drew rfl rfl rfl, HST4.out.to_drew⟩
set_option maxRecDepth 100000 in
set_option maxHeartbeats 4000000 in
theorem undo27_c (w : World) (B : Nat) (o : FO) (M : List L3) (N : Nat) (l : L3) (h : FS w B o (M ++ [l]) N) (hN2 : N < 800000) (hk : M.length ≤ 900) (k : Nat) (hkn : k ≠ M.length) (hna : o.up l.a = some k) (hup : o.up l.b = some M.length) : Calls Try.prog 27 #[.pointer (some ⟨o.f, 0, none⟩)] w (ULP w B o M N) := by
  obtain ⟨C, c, r, hC, hCl, hov, hOV⟩ := h.last
  obtain ⟨g, cc1, e1, hA⟩ := h.fb.link0 (by simp)
  have hA := hA M.length (by simp)
  rw [List.getElem_append_right (Nat.le_refl _)] at hA
  simp only [Nat.sub_self, List.getElem_cons_zero] at hA
  obtain ⟨g2, cc2, e2, hL⟩ := h.fb.lost0 hC
  rw [hCl] at e2
  clear hL
  rw [List.length_append] at e1
  simp only [List.length_cons, List.length_nil, Nat.zero_add] at e1
  have hlo : okI l.a ∧ okI l.b := by have := h.fb.ok l (by simp); exact ⟨this.1, this.2.1⟩
  have hco : okI c := h.fb.okc c (by rw [hC]; simp)
  have hro : okI r := h.fb.mov.ok hco hov
  have lk := h.fb.mup.look hlo.1
  rw [upI_getD, upI_isSome] at lk
  rw [hna, hI_some] at lk
  clear hna
  have hne : ((k : Int) == (M.length : Int)) = false := by rw [beq_eq_false_iff_ne]; omega
  have hxup : o.up l.b = some M.length := hup
  have hxo : okI l.b := hlo.2
  have c1 := h.fb.k1
  have c2 := h.fb.k2
  have c5 := h.fb.k5
  rw [e1] at c1
  rw [e2] at c5
  obtain ⟨A0, A1, A2⟩ := hA
  obtain ⟨D, hD, hRd⟩ := h.fb.mup
  have hkey := keyOf_int_mk Try.underlying3 (ok_wf hxo)
  have HH := Lib.hid h
  have HC := Lib.hid (And.intro hC hCl)
  have HOV := Lib.hid (And.intro hov hOV)
  have HXU := Lib.hid hxup
  have HE := Lib.hid (And.intro e1 e2)
  have HRD := Lib.hid hRd
  have HCO := Lib.hid hco
  have HRO := Lib.hid hro
  clear h hC hCl hov hOV hxup e1 e2 hRd hlo hco hro hxo hup
  obtain ⟨la, lb, ly⟩ := l
  dsimp only at *
  have ei : IntKind.i64.wrap ((M.length : Int) + 1 - 1) = (M.length : Int) := by rw [IntWalk.i64_in _ (by omega)]; omega
  generalize hn : M.length = n at *
  have HN := Lib.hid hn
  clear hn
  go_enter Try.func27, Try.ntmps27
  go_wp2_with (at_delete; refine wpList_delete_own _ rfl _ _ 49 3 rfl 3 keyLaw Try.underlying49 _ o.mu N D rfl hD _ _ rfl hkey ?_)
  intro w1 hD1 ht1
  obtain ⟨F1, ST1⟩ := HH.out.fb.mapU (up := upd o.up lb none) ht1 ⟨_, hD1, by rw [← upI_put]; exact HRD.out.del lb⟩ (Nat.le_refl _)
  have HF1 := Lib.hid F1
  have HST1 := Lib.hid ST1
  clear F1 ST1 hD hD1 ht1 lk c1 c2 c5 hkey A0 A1 A2
  -- the root that was put below
  obtain ⟨gg, cc, ee, hL⟩ := HF1.out.lost0 (o := { o with up := upd o.up lb none }) HC.out.1
  dsimp only at ee hL
  obtain ⟨rfl, rfl⟩ : gg = g2 ∧ cc = cc2 := by
    have := ee.symm.trans HE.out.2
    simp only [Value.slice.injEq, Option.some.injEq, Addr.mk.injEq] at this
    exact ⟨this.1.1, this.2.2⟩
  rw [HC.out.2] at hL
  have c5 := HF1.out.k5
  dsimp only at c5
  rw [HE.out.2] at c5
  clear ee
  go_wp2_with fail
  -- the sizes
  have c4 := HF1.out.k4
  have c3 := HF1.out.k3
  have q0 := (HF1.out.mov.at (w' := w1.drew) rfl).look1 HCO.out
  dsimp only at c4 c3 q0
  rw [HOV.out.1] at q0
  simp only [Option.getD_some] at q0
  have q1 := (HF1.out.mbl.at (w' := w1.drew) rfl).look1 HRO.out
  have q2 := (HF1.out.mbl.at (w' := w1.drew) rfl).look1 HCO.out
  generalize hv1 : (Option.getD (FO.bl _ r) 0 : Int) = v1 at q1
  generalize hv2 : (Option.getD (FO.bl _ c) 0 : Int) = v2 at q2
  clear hv1 hv2
  obtain ⟨w2, run2, m2, t2⟩ := MP.store (HF1.out.mbl.at (w' := w1.drew) rfl) (by omega) (x := r) (v := IntKind.i64.wrap (v1 - IntKind.i64.wrap (v2 + 1))) HRO.out (wrap_ok _)
  obtain ⟨F2, ST2⟩ := FB.mapB (HF1.out.drew) t2 m2 (Nat.le_succ _)
  have HF2 := Lib.hid F2
  have HST2 := Lib.hid (HST1.out.trans ST2.drew)
  clear m2 t2 F2 ST2 HF1 HST1 hL c5
  dsimp only at q1 q2 run2
  go_still_tail 19, (by kernel_rfl)
  change wpList _ _ _ _ _ w1.drew
  generalize w1.drew = wz1 at run2 ⊢
  clear q0 q1 q2 c3 c4
  obtain ⟨D3, hD3, hRd3⟩ := HF2.out.mov
  have c3 := HF2.out.k3
  have hkey3 := keyOf_int_mk Try.underlying3 (ok_wf HCO.out)
  have HRD3 := Lib.hid hRd3
  dsimp only at c3 hD3
  clear hRd3
  go_wp2_with (at_delete; refine wpList_delete_own _ rfl _ _ 49 3 rfl 3 keyLaw Try.underlying49 _ o.mo (N + 1) D3 rfl hD3 _ _ rfl hkey3 ?_)
  intro w3 hD4 ht3
  obtain ⟨F3, ST3⟩ := HF2.out.mapO (ov := put1 o.ov c none) ht3 ⟨_, hD4, HRD3.out.del c⟩ (Nat.le_refl _)
  have HF3 := Lib.hid F3
  have HST3 := Lib.hid (HST2.out.trans ST3)
  clear F3 ST3 hD3 hD4 ht3 HRD3 HF2 HST2 run2 c3
  have c1 := HF3.out.k1
  have c5 := HF3.out.k5
  have f1 := HF3.out.free 1
  have f5 := HF3.out.free 5
  dsimp only at c1 c5 f1 f5
  rw [HE.out.1] at c1
  rw [HE.out.2] at c5
  obtain ⟨F4, ST4⟩ := HF3.out.cut HC.out.1 (HC.out.2.trans HN.out.symm) (by dsimp only; rw [HE.out.1, HN.out]) (by dsimp only; rw [HE.out.2, HN.out])
  dsimp only at F4 ST4
  rw [HN.out] at F4 ST4
  have HF4 := Lib.hid F4
  have HST4 := Lib.hid (HST3.out.trans ST4)
  clear F4 ST4
  have b1 := own_cap (by have := HF3.out.links; rw [List.length_append] at this; dsimp only at this; rw [HE.out.1, HN.out] at this; exact this)
  have b2 := own_cap (by have := HF3.out.lost; rw [HC.out.1, List.length_append] at this; dsimp only at this; rw [HE.out.2, HC.out.2] at this; exact this)
  have b3 : (n : Int) ≤ (cc1 : Int) := by omega
  have b4 : (n : Int) ≤ (cc : Int) := by omega
  clear HST3
  generalize hgen : w3 = w3' at *
  clear hgen
  go_wp2_with fail
  go_region
  go_end0
  exact ⟨rfl, _, by rfl, undo_end (c := c) (C := C) HH.out (by rw [HN.out]; exact HXU.out) HOV.out.2 HF4.out.drew rfl rfl rfl, HST4.out.to_drew⟩
end Go.Proofs.Ytpnjmkmobdaefaa
