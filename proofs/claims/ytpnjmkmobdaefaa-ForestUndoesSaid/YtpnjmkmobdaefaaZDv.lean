/- The law of undo: the walk, to a number of links that there are. -/
import Derived.Test.YtpnjmkmobdaefaaZD
namespace Go.Proofs.Ytpnjmkmobdaefaa
open Go.RowKit Go.Maps
set_option linter.unusedVariables false
set_option linter.unusedSimpArgs false
set_option maxRecDepth 100000 in
set_option maxHeartbeats 8000000 in
theorem undoes_v (p : Option Addr) (c : Nat) (K : Nat) (a b : Int) (ac : List A4) (w : World) (ha : RA w p ac) (hl : ac.length ≤ 60) (oa : okI a) (ob : okI b) (hK : K ≤ (playM [] ac).length) : Calls Try.prog 8 #[.slice p ac.length c, .int .i64 (K : Int), .int .i64 a, .int .i64 b] w fun e w' => e = .returned (.bool true) ∧ BK w w' := by
  have hi : ¬ (60 : Int) < (ac.length : Int) := by omega
  have HP := Lib.hid (play20 w p c ac ha hl)
  have hML : (playM [] ac).length ≤ 60 := by have := playM_len ac []; simp at this; omega
  clear ha hl
  generalize playM [] ac = M at *
  generalize ac.length = n at *
  have OA := Lib.hid oa
  have OB := Lib.hid ob
  clear oa ob
  have UB := Lib.hid (show undoB M (K : Int) = true from if_pos ⟨by omega, by omega⟩)
  have UM := Lib.hid (show undoM M (K : Int) = M.take K from by unfold undoM; rw [if_pos ⟨by omega, by omega⟩, Int.toNat_natCast])
  go_enter Try.func8, Try.ntmps8
  go_wp2_with fail
  refine HP.out.mono ?_
  rintro e w1 ⟨o, rfl, hF, hb1⟩
  have HF := Lib.hid hF
  have B1 := Lib.hid hb1
  have HN := Lib.hid (new11 w1)
  clear hF hb1 HP
  go_wp2_with fail
  refine HN.out.mono ?_
  rintro e w2 ⟨og, rfl, hG, hb2⟩
  have HG := Lib.hid hG
  have B2 := Lib.hid hb2
  have HF2 := Lib.hid (HF.out.bk hb2)
  have C19 := Lib.hid (links19 w2 _ o M _ HF2.out.fb (by omega))
  clear hG hb2 HN
  go_wp2_with fail
  refine C19.out.mono ?_
  rintro e w3 ⟨v3, rfl, ho3, hb3⟩
  have HO3 := Lib.hid ho3
  have B3 := Lib.hid hb3
  have HF3 := Lib.hid (HF2.out.bk hb3)
  have HG3 := Lib.hid (HG.out.bk hb3)
  have C14 := Lib.hid (undo_st w3 _ o M _ HF3.out (by omega) (by omega) (K : Int))
  rw [UB.out, UM.out] at C14
  obtain ⟨p3, c3', e3⟩ := own_shape ho3
  subst e3
  clear ho3 hb3 C19
  generalize hml : M.length = ml at *
  have HML := Lib.hid hml
  clear hml
  go_wp2_with fail
  refine C14.out.mono ?_
  rintro e w4 ⟨rfl, o4, f1, f2, f3⟩
  have HSZ := Lib.hid (show w.heap.size ≤ w1.heap.size ∧ w1.heap.size ≤ w2.heap.size ∧ w2.heap.size ≤ w3.heap.size ∧ w3.heap.size ≤ w4.heap.size from ⟨bk_size B1.out, bk_size B2.out, bk_size B3.out, f3.size⟩)
  have NG := Lib.hid (show N3 og.foot o.foot from fun k h1 h2 => by have := HG.out.fb.lo k h1; have := HF.out.fb.lt k h2; omega)
  have NV := Lib.hid (show N3 (fun k => (Value.slice p3 ml c3').ownBlock = some k) o.foot from fun k h1 h2 => by have := (HO3.out.lt k h1).1; have := HF2.out.fb.lt k h2; omega)
  have NVG := Lib.hid (show N3 (fun k => (Value.slice p3 ml c3').ownBlock = some k) og.foot from fun k h1 h2 => by have := (HO3.out.lt k h1).1; have := HG.out.fb.lt k h2; omega)
  have T0 := Lib.hid (show TW w w.heap.size og.f o4.f M K 0 (.slice p3 ml c3') w4 from
    ⟨⟨o4, og, _, rfl, rfl, f2, (HG3.out.aside f3 NG.out).low (bk_size B1.out), by have := own_aside HO3.out f3 NV.out; rw [HML.out]; exact this, (N3.grow f3 NG.out HG3.out.fb.lt).symm, N3.grow f3 NV.out (fun k hk => (HO3.out.lt k hk).2), NVG.out⟩,
     Step.bk_new (bk_tr B1.out (bk_tr B2.out B3.out)) f3 HF.out.fb.lo⟩)
  have hff := f1
  rw [← hff]
  have OKM := Lib.hid HF.out.fb.ok
  have WFM := Lib.hid HF.out.wf
  clear f1 f2 f3 C14 hff HG HG3 HF3 HO3 NG NV NVG HF HF2
  generalize o4.f = Fp at T0 ⊢
  generalize og.f = G at T0 ⊢
  have hd1 : decide ((K : Int) < 0) = false := decide_eq_false (by omega)
  have hd2 : decide (ml < K) = false := decide_eq_false (by omega)
  have hd3 : decide (K ≤ ml) = true := decide_eq_true (by omega)
  have hd4 : decide (0 ≤ (K : Int)) = true := decide_eq_true (by omega)
  go_wp2_with fail
  go_loopw [12] (fun x wr => ∃ i : Nat, x = .int .i64 i ∧ i ≤ K ∧ TW w w.heap.size G Fp M K i (.slice p3 ml c3') wr) (fun x _ => K - (intOf x).toNat)
  case atStart => exact ⟨0, rfl, by omega, T0.out⟩
  case round =>
    obtain ⟨i, rfl, hik, htw⟩ := hrel
    have TT := Lib.hid htw
    obtain ⟨⟨of, og2, L, e1, e2, h3, h4, h5, n1, n2, n3⟩, hbw⟩ := htw
    have H3 := Lib.hid h3
    have H4 := Lib.hid h4
    have H5 := Lib.hid h5
    have NN := Lib.hid (And.intro n1 (And.intro n2 n3))
    have BW := Lib.hid hbw
    have E1 := Lib.hid e1
    have E2 := Lib.hid e2
    have RLL := Lib.hid (RL.own (l := M) (B := L) (e := 44) (n := ml) (c := c3') (p := p3) (by have := h5; rw [HML.out] at this ⊢; exact this))
    clear e1 e2 h3 h4 h5 n1 n2 n3 hbw
    by_cases e : i = K
    · subst e
      have hT := Lib.hid (show (M.take i).length = i from by rw [List.length_take, HML.out]; omega)
      have RT := Lib.hid (RLL.out.take' i)
      have hcl := RLL.out.le
      have hcn := RLL.out.nl
      rw [HML.out] at hcl
      have hsl := fun w => slice_to p3 ml c3' i (by omega) hcn w
      clear hcl hcn
      generalize M.take i = T at *
      have C1 := Lib.hid (path21 wr _ of T _ H3.out a b OA.out OB.out (by rw [hT.out]; omega))
      have C2 := Lib.hid (fun wc (h : BK wr wc) => path21 wc _ og2 T _ (H4.out.bk h) a b OA.out OB.out (by rw [hT.out]; omega))
      rw [E1.out] at C1
      rw [E2.out] at C2
      have hpl := pathL_len T a b
      rw [hT.out] at hpl
      go_wp2_with fail
      refine C1.out.mono ?_
      rintro e w5 ⟨v5, rfl, ho5, hb5⟩
      have K5 := Lib.hid hb5
      have C2' := Lib.hid (C2.out w5 hb5)
      obtain ⟨p5, c5, e5⟩ := own_shape ho5
      have R5 := Lib.hid (RL.own (n := (pathL T a b).length) (B := wr.heap.size) (e := 44) (by rw [← e5]; exact ho5))
      subst e5
      clear ho5 hb5 C1 C2
      go_wp2_with fail
      refine C2'.out.mono ?_
      rintro e w6 ⟨v6, rfl, ho6, hb6⟩
      have K6 := Lib.hid (bk_tr K5.out hb6)
      obtain ⟨p6, c6, e6⟩ := own_shape ho6
      have R6 := Lib.hid (RL.own (n := (pathL T a b).length) (B := w5.heap.size) (e := 44) (by rw [← e6]; exact ho6))
      have R5' := Lib.hid (R5.out.keep hb6)
      subst e6
      clear ho6 hb6 C2' R5
      have D17 := Lib.hid (fun wc (h : BK wr wc) => len17 wc _ of T _ (H3.out.bk h).fb)
      have D19 := Lib.hid (fun wc (h : BK wr wc) => links19 wc _ of T _ (H3.out.bk h).fb (by rw [hT.out]; omega))
      rw [E1.out] at D17 D19
      rw [hT.out] at D17
      have D18a := Lib.hid (fun wc p9 c9 (r : RL wc p9 c9 T) (h : BK wr wc) => equal18 wc T p9 p3 c9 c3' r (RT.out.keep h) (by rw [hT.out]; omega))
      rw [hT.out] at D18a
      have D18b := Lib.hid (fun wc (h : BK w6 wc) => equal18 wc (pathL T a b) p5 p6 c5 c6 (R5'.out.keep h) (R6.out.keep h) (by omega))
      have D16a := Lib.hid (fun wc (h : BK wr wc) => link_st wc w.heap.size of T _ (H3.out.bk h) (bk_size (bk_tr BW.out h)) (by rw [hT.out]; omega) (by omega) (by rw [hT.out]; omega) a b 5 OA.out OB.out (okI_small (by omega)))
      rw [E1.out] at D16a
      have D16b := Lib.hid (fun wc w' e (h : BK wr wc) (s : SP wc w.heap.size of 6100 (linkB T a b) (linkM T a b 5) e w') => link_st w' w.heap.size og2 T _ (s.aside (H4.out.bk h) NN.out.1.symm) (Nat.le_trans (bk_size (bk_tr BW.out h)) s.size) (by rw [hT.out]; omega) (by omega) (by rw [hT.out]; omega) a b 5 OA.out OB.out (okI_small (by omega)))
      rw [E2.out] at D16b
      have LO3 := Lib.hid H3.out.fb.lo
      have LO4 := Lib.hid H4.out.fb.lo
      generalize (pathL T a b).length = q at *
      generalize sameB T a b = s at *
      generalize hlb : linkB T a b = t at *
      clear hlb
      have K6d := Lib.hid (bk_drew K6.out)

      go_wp2_with fail
      go_region_held3 (fun _ => True) (trivial)
        (first
          | (go_at_call 12; refine (live12 w12).mono ?_; rintro e w13 ⟨rfl, hb13⟩; have K13 := Lib.hid (bk_tr K12.out hb13); clear hb13)
          | (go_at_call 16; refine (D16b.out w10 w11 _ K10.out S11.out).mono ?_; intro e w12 s12; have K12 := Lib.hid (SP.bk K11.out LO4.out s12); obtain ⟨rfl, _⟩ := s12)
          | (go_at_call 16; refine (D16a.out w10 K10.out).mono ?_; intro e w11 s11; have S11 := Lib.hid s11; have K11 := Lib.hid (SP.bk (bk_tr BW.out K10.out) LO3.out s11); obtain ⟨rfl, _⟩ := s11)
          | (go_at_call 18; refine (D18b.out w9 K69.out).mono ?_; rintro e w10 ⟨rfl, hb10⟩; have K10 := Lib.hid (bk_tr K9.out hb10); clear hb10)
          | (go_at_call 18; refine (D18a.out w8 p8 c8 R8.out K8.out).mono ?_; rintro e w9 ⟨rfl, hb9⟩; have K9 := Lib.hid (bk_tr K8.out hb9); have K69 := Lib.hid (bk_tr K68.out hb9); clear hb9)
          | (go_at_call 19; refine (D19.out _ K6d.out).mono ?_; rintro e w8 ⟨v8, rfl, ho8, hb8⟩; have K8 := Lib.hid (bk_tr K6d.out hb8); have K68 := Lib.hid (bk_tr (bk_drew (BK.refl w6)) hb8); obtain ⟨p8, c8, e8⟩ := own_shape ho8; have R8 := Lib.hid (RL.own (n := T.length) (B := w6.drew.heap.size) (e := 44) (by rw [← e8]; exact ho8)); rw [hT.out] at e8; subst e8; clear ho8 hb8)
          | (go_at_call 17; refine (D17.out _ K6d.out).mono ?_; rintro e w' ⟨rfl, rfl⟩))
      go_wp2_with fail
      go_ret
      exact ⟨rfl, K13.out⟩
    · have hlt : (i : Int) < (K : Int) := by omega
      have hiM : i < M.length := by rw [HML.out]; omega
      obtain ⟨bq, oq, rfl, hA⟩ := RLL.out.get i hiM
      obtain ⟨A0, A1, A2⟩ := hA
      have hok := OKM.out _ (List.getElem_mem hiM)
      have RE := Lib.hid (relink WFM.out hiM)
      have C16 := Lib.hid (link_st wr.drew w.heap.size og2 (M.take i) _ (H4.out.keep (w' := wr.drew) (fun _ _ => rfl)) (bk_size (bk_drew BW.out)) (by rw [List.length_take]; omega) (by omega) (by rw [List.length_take, HML.out]; omega) M[i].a M[i].b M[i].y hok.1 hok.2.1 hok.2.2)
      rw [RE.out.1, RE.out.2, E2.out] at C16
      have TL := Lib.hid (fun t e w' s => TW.link (t := t) (e := e) (w' := w') (Nat.le_refl _) (bk_drew BW.out) (H3.out.keep (w' := wr.drew) (fun _ _ => rfl)) (H4.out.keep (w' := wr.drew) (fun _ _ => rfl)) (own_at (w' := wr.drew) H5.out (fun _ _ => rfl)) NN.out.1 NN.out.2.1 NN.out.2.2 s)
      rw [E1.out, E2.out] at TL
      generalize M[i] = l at *
      clear hiM
      obtain ⟨la, lb, ly⟩ := l
      dsimp only at *
      have hlm : (i : Int) < (ml : Int) := by omega
      go_wp2_with fail
      go_still_tail 16, (by kernel_rfl)
      change wpList _ _ _ _ _ wr.drew
      generalize wr.drew = wd at C16 TL ⊢
      go_wp2_with fail
      refine C16.out.mono ?_
      intro e w7 s
      have T7 := Lib.hid (TL.out _ e w7 s)
      obtain ⟨rfl, _⟩ := s
      go_wp2_with fail
      go_roundw
      case rel => exact ⟨i + 1, by go_num, by omega, T7.out⟩
      case measure => simp [intOf]; omega
end Go.Proofs.Ytpnjmkmobdaefaa
