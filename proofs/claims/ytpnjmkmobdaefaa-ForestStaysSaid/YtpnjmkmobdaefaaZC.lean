/- The law that paths stay. -/
import Derived.Test.YtpnjmkmobdaefaaY
namespace Go.Proofs.Ytpnjmkmobdaefaa
open Go.RowKit Go.Maps
set_option linter.unusedVariables false
set_option linter.unusedSimpArgs false
def asLink (x : A4) : A4 := ⟨false, x.a, x.b, x.y⟩
theorem stM_asLink (M : List L3) (x : A4) : stM M (asLink x) = linkM M x.a x.b x.y := if_neg (by simp [asLink])
theorem pathO_snoc {M : List L3} {l : L3} {a b : Int} {p : List L3} (h : pathO M a b = some p) : pathO (M ++ [l]) a b = some p := by
  unfold pathO at h ⊢
  split at h
  · rename_i q
    rw [if_pos q, List.reverse_append]
    show PR (l :: M.reverse) a b = some p
    unfold PR
    rw [h]
  · cases h
theorem pathO_links : ∀ (l : List A4) {M : List L3} {a b : Int} {p : List L3}, pathO M a b = some p → pathO (playM M (l.map asLink)) a b = some p
  | [], M, a, b, p, h => h
  | x :: t, M, a, b, p, h => by
    show pathO (playM (stM M (asLink x)) (t.map asLink)) a b = some p
    refine pathO_links t ?_
    rw [stM_asLink]
    unfold linkM
    split
    · exact h
    · exact pathO_snoc h
theorem path_stays {M : List L3} {a b : Int} (l : List A4) (h : sameB M a b = true) : sameB (playM M (l.map asLink)) a b = true ∧ pathL (playM M (l.map asLink)) a b = pathL M a b := by
  unfold sameB at h
  cases hp : pathO M a b with
  | none => rw [hp] at h; cases h
  | some p =>
    have := pathO_links l hp
    unfold sameB pathL
    rw [this, hp]
    exact ⟨rfl, rfl⟩
set_option maxHeartbeats 1000000 in
theorem stays_long (p q : Option Addr) (n c m d : Nat) (a b : Int) (w : World) (h : 40 < n ∨ 20 < m) : Calls Try.prog 7 #[.slice p n c, .slice q m d, .int .i64 a, .int .i64 b] w fun e w' => e = .returned (.bool true) ∧ BK w w' := by
  have HL := Lib.hid (live12 w)
  by_cases h1 : 40 < n
  · have hi : (40 : Int) < (n : Int) := by omega
    clear h
    go_enter Try.func7, Try.ntmps7
    go_wp2_with fail
    refine HL.out.mono ?_
    rintro e w1 ⟨rfl, hb⟩
    have HB := Lib.hid hb
    clear hb
    go_wp2_with fail
    go_ret
    exact ⟨rfl, HB.out⟩
  · have hi : ¬ (40 : Int) < (n : Int) := by omega
    have hj : (20 : Int) < (m : Int) := by omega
    clear h
    go_enter Try.func7, Try.ntmps7
    go_wp2_with fail
    refine HL.out.mono ?_
    rintro e w1 ⟨rfl, hb⟩
    have HB := Lib.hid hb
    clear hb
    go_wp2_with fail
    go_ret
    exact ⟨rfl, HB.out⟩
/-- while operations are played on a forest of a world -/
structure PS (w w2 : World) (o : FO) (M0 : List L3) (N0 : Nat) (ac : List A4) (k : Nat) (wr : World) : Prop where
  ex : ∃ o', o'.f = o.f ∧ FS wr w.heap.size o' (playM M0 (ac.take k)) (N0 + 100 * k) ∧ Step w2 wr o.foot o'.foot
  bk : BK w wr
theorem PS.next {w w2 wr w' : World} {o o1 : FO} {M0 : List L3} {N0 : Nat} {ac : List A4} {k : Nat} {t : Bool} {e : Ending} (h : BK w wr) (hk : k < ac.length) (hf : o1.f = o.f) (ho : FS wr w.heap.size o1 (playM M0 (ac.take k)) (N0 + 100 * k)) (hs : Step w2 wr o.foot o1.foot) (s : SP wr w.heap.size o1 (N0 + 100 * k) t (stM (playM M0 (ac.take k)) ac[k]) e w') : PS w w2 o M0 N0 ac (k + 1) w' := by
  obtain ⟨_, o', e1, e2, e3⟩ := s
  exact ⟨⟨o', e1.trans hf, by rw [play_next hk]; exact e2, hs.trans e3⟩, Step.bk_new h e3 ho.fb.lo⟩
/-- a row made after a forest is not touched by what is done to the forest -/
theorem own_step {w1 w2 wr : World} {B e sz n N : Nat} {v : Value} {xs : List Value} {o : FO} {F' : Nat → Prop} {M : List L3} (h : w2.ownsRow w1.heap.size e sz v n xs) (hf : FB w1 B o M N) (s : Step w2 wr o.foot F') : wr.ownsRow w1.heap.size e sz v n xs :=
  own_at h fun k hk => s.block k (h.lt k hk).2 (fun hfk => by have a := hf.lt k hfk; have b := (h.lt k hk).1; omega)
set_option maxRecDepth 100000 in
set_option maxHeartbeats 4000000 in
theorem stays_law (p q : Option Addr) (c d : Nat) (a b : Int) (ac ad : List A4) (w : World) (ha : RA w p ac) (hq : RA w q ad) (hl : ac.length ≤ 40) (hl2 : ad.length ≤ 20) (oa : okI a) (ob : okI b) : Calls Try.prog 7 #[.slice p ac.length c, .slice q ad.length d, .int .i64 a, .int .i64 b] w fun e w' => e = .returned (.bool true) ∧ BK w w' := by
  have hi : decide ((40 : Int) < (ac.length : Int)) = false := by simp; omega
  have hi2 : decide ((20 : Int) < (ad.length : Int)) = false := by simp; omega
  have hi3 : ¬ (40 : Int) < (ac.length : Int) := by omega
  have hi4 : ¬ (20 : Int) < (ad.length : Int) := by omega
  have HP := Lib.hid (play20 w p c ac ha (by omega))
  have hML : (playM [] ac).length ≤ 40 := by have := playM_len ac []; simp at this; omega
  have HA := Lib.hid hq
  clear ha hl hq
  generalize playM [] ac = M at HP hML
  generalize ac.length = n at *
  generalize hm : ad.length = m at *
  have HL := Lib.hid hm
  have OA := Lib.hid oa
  have OB := Lib.hid ob
  clear oa ob hm
  go_enter Try.func7, Try.ntmps7
  go_wp2_with fail
  refine HP.out.mono ?_
  rintro e w1 ⟨o, rfl, hF, hb1⟩
  have HF := Lib.hid hF
  have B1 := Lib.hid hb1
  have C1 := Lib.hid (path21 w1 _ o M _ hF a b OA.out OB.out (by omega))
  clear hF hb1 HP
  go_wp2_with fail
  refine C1.out.mono ?_
  rintro e w2 ⟨v, rfl, ho, hb2⟩
  have HO := Lib.hid ho
  have B2 := Lib.hid (bk_tr B1.out hb2)
  have P0 := Lib.hid (show PS w w2 o M 6000 (ad.map asLink) 0 w2 from ⟨⟨o, rfl, HF.out.bk hb2, Step.refl _ _⟩, B2.out⟩)
  obtain ⟨pv, cv, rfl⟩ := own_shape ho
  have PSY := Lib.hid (fun h => path_stays (M := M) (a := a) (b := b) ad h)
  have hpl := pathL_len M a b
  have HPL := Lib.hid hpl
  clear ho hb2 C1
  generalize hpll : (pathL M a b).length = pl at *
  have HPLL := Lib.hid hpll
  generalize hs : sameB M a b = s at *
  clear hpll hs
  go_wp2_with fail
  go_loopw [12] (fun x wr => ∃ k : Nat, x = .int .i64 k ∧ k ≤ m ∧ PS w w2 o M 6000 (ad.map asLink) k wr) (fun x _ => m - (intOf x).toNat)
  case atStart => exact ⟨0, rfl, by omega, P0.out⟩
  case round =>
    obtain ⟨k, rfl, hk, ⟨o1, hf, hF, hst⟩, hb⟩ := hrel
    have HF1 := Lib.hid hF
    have HB := Lib.hid hb
    have FE := Lib.hid hf
    have ST := Lib.hid hst
    clear hF hb hf hst
    by_cases e : k = m
    · subst e
      have hT : (ad.map asLink).take k = ad.map asLink := List.take_of_length_le (by rw [List.length_map, HL.out]; exact Nat.le_refl _)
      have HM2 := Lib.hid (show FS wr w.heap.size o1 (playM M (ad.map asLink)) (6000 + 100 * k) from by have := HF1.out; rw [hT] at this; exact this)
      have hml2 : (playM M (ad.map asLink)).length ≤ 100 := by have := playM_len (ad.map asLink) M; rw [List.length_map, HL.out] at this; omega
      have C2 := Lib.hid (path21 wr _ o1 _ _ HM2.out a b OA.out OB.out (by omega))
      rw [FE.out] at C2
      clear hT
      go_wp2_with fail
      refine C2.out.mono ?_
      rintro e w3 ⟨v3, rfl, ho3, hb3⟩
      have B3 := Lib.hid (bk_tr HB.out hb3)
      have HO3 := Lib.hid ho3
      have HOw := own_step HO.out HF.out.fb ST.out
      have R1 := Lib.hid ((RL.own (n := pl) (B := w1.heap.size) (e := 44) (l := pathL M a b) (by rw [HPLL.out]; exact HOw)).keep hb3)
      clear HOw
      have hpl2 := pathL_len (playM M (ad.map asLink)) a b
      have HPL2 := Lib.hid hpl2
      obtain ⟨p3, c3', rfl⟩ := own_shape ho3
      clear ho3 hb3 C2 hpl2
      generalize hpl3 : (pathL (playM M (ad.map asLink)) a b).length = pl3 at *
      generalize hs3 : sameB (playM M (ad.map asLink)) a b = s3 at *
      cases s with
      | false =>
        have C6 := Lib.hid (live12 w3)
        go_wp2_with fail
        refine C6.out.mono ?_
        rintro e w6 ⟨rfl, hb6⟩
        have B6 := Lib.hid (bk_tr B3.out hb6)
        clear hb6
        go_wp2_with fail
        go_ret
        exact ⟨rfl, B6.out⟩
      | true =>
        obtain ⟨e1, e2⟩ := PSY.out rfl
        subst e1
        rw [e2] at HO3
        obtain rfl : pl3 = pl := by rw [← hpl3, e2, HPLL.out]
        have C4 := Lib.hid (equal18 w3 (pathL M a b) pv p3 cv c3' R1.out (RL.own (n := pl3) (B := wr.heap.size) (e := 44) (by have := HO3.out; rw [HPLL.out]; exact this)) (by rw [HPLL.out]; have := HPL.out; omega))
        rw [HPLL.out] at C4
        clear hpl3 hs3 e2
        go_wp2_with fail
        refine C4.out.mono ?_
        rintro e w5 ⟨rfl, hb5⟩
        have B5 := Lib.hid (bk_tr B3.out hb5)
        have C6 := Lib.hid (live12 w5)
        clear hb5
        go_wp2_with fail
        refine C6.out.mono ?_
        rintro e w6 ⟨rfl, hb6⟩
        have B6 := Lib.hid (bk_tr B5.out hb6)
        clear hb6
        go_wp2_with fail
        go_ret
        exact ⟨rfl, B6.out⟩
    · have hlt : (k : Int) < (m : Int) := by omega
      have hka : k < ad.length := by rw [HL.out]; omega
      have hkb : k < (ad.map asLink).length := by rw [List.length_map]; exact hka
      obtain ⟨b1, p1, rfl, hM⟩ := (HA.out.keep HB.out).get k hka
      have hok := HA.out.ok _ (List.getElem_mem hka)
      have HML := Lib.hid (show (playM M ((ad.map asLink).take k)).length ≤ 100 from by have := playM_len ((ad.map asLink).take k) M; simp at this; omega)
      have NXD := Lib.hid (fun t e w' s => PS.next (w2 := w2) (t := t) (e := e) (w' := w') (bk_drew HB.out) hkb FE.out (HF1.out.keep (w' := wr.drew) (fun _ _ => rfl)) ST.out.to_drew s)
      rw [List.getElem_map] at NXD
      generalize ad[k] = x at *
      clear hka hkb
      obtain ⟨xu, xa, xb, xy⟩ := x
      obtain ⟨m0, m1, m2, m3⟩ := hM
      dsimp only at *
      have U := Lib.hid (link_st wr.drew w.heap.size o1 _ _ (HF1.out.keep (w' := wr.drew) (fun _ _ => rfl)) (bk_size (bk_drew HB.out)) (by have := HML.out; omega) (by omega) HML.out xa xb xy hok.1 hok.2.1 hok.2.2)
      rw [FE.out] at U
      go_wp2_with fail
      go_still_tail 16, (by kernel_rfl)
      change wpList _ _ _ _ _ wr.drew
      generalize wr.drew = wd at U NXD ⊢
      go_wp2_with fail
      refine U.out.mono ?_
      intro e w2 s
      have S2 := Lib.hid (NXD.out _ e w2 (by rw [stM_asLink]; exact s))
      obtain ⟨rfl, _⟩ := s
      go_wp2_with fail
      go_roundw
      case rel => exact ⟨k + 1, by go_num, by omega, S2.out⟩
      case measure => simp [intOf]; omega
end Go.Proofs.Ytpnjmkmobdaefaa
