/- Operations played on a new forest. -/
import Derived.Test.YtpnjmkmobdaefaaX
import Derived.StillTailTactics
namespace Go.Proofs.Ytpnjmkmobdaefaa
open Go.RowKit Go.Maps
set_option linter.unusedVariables false
set_option linter.unusedSimpArgs false
theorem stM_u {M : List L3} {x : A4} (h : x.u = true) : stM M x = undoM M x.a := if_pos h
theorem stM_l {M : List L3} {x : A4} (h : x.u = false) : stM M x = linkM M x.a x.b x.y := if_neg (by rw [h]; simp)
theorem play_next {ac : List A4} {M : List L3} {k : Nat} (h : k < ac.length) : playM M (ac.take (k + 1)) = stM (playM M (ac.take k)) ac[k] := by
  rw [List.take_succ_eq_append_getElem h, playM_snoc]
/-- a forest after operations -/
def PL (w : World) (M : List L3) (e : Ending) (w' : World) : Prop := ∃ o, e = .returned (.pointer (some ⟨o.f, 0, none⟩)) ∧ FS w' w.heap.size o M 6000 ∧ BK w w'
/-- while operations are played on a forest -/
structure PW (w : World) (F : Nat) (M0 : List L3) (N0 : Nat) (ac : List A4) (k : Nat) (wr : World) : Prop where
  ex : ∃ o, o.f = F ∧ FS wr w.heap.size o (playM M0 (ac.take k)) (N0 + 100 * k)
  bk : BK w wr
theorem PW.next {w wr w' : World} {F : Nat} {M0 : List L3} {N0 : Nat} {ac : List A4} {k : Nat} {o : FO} {t : Bool} {e : Ending} (h : BK w wr) (hk : k < ac.length) (hf : o.f = F) (ho : FS wr w.heap.size o (playM M0 (ac.take k)) (N0 + 100 * k)) (s : SP wr w.heap.size o (N0 + 100 * k) t (stM (playM M0 (ac.take k)) ac[k]) e w') : PW w F M0 N0 ac (k + 1) w' := by
  obtain ⟨_, o', e1, e2, e3⟩ := s
  exact ⟨⟨o', e1.trans hf, by rw [play_next hk]; exact e2⟩, Step.bk_new h e3 ho.fb.lo⟩
set_option maxRecDepth 100000 in
set_option maxHeartbeats 2000000 in
theorem play20 (w : World) (p : Option Addr) (c : Nat) (ac : List A4) (ha : RA w p ac) (hl : ac.length ≤ 60) : Calls Try.prog 20 #[.slice p ac.length c] w (PL w (playM [] ac)) := by
  have HN := Lib.hid (new11 w)
  have HA := Lib.hid ha
  clear ha
  generalize hn : ac.length = n at *
  have HL := Lib.hid hn
  clear hn
  go_enter Try.func20, Try.ntmps20
  go_wp2_with fail
  refine HN.out.mono ?_
  rintro e w1 ⟨o, rfl, hF, hb⟩
  have P0 := Lib.hid (show PW w o.f [] 0 ac 0 w1 from ⟨⟨o, rfl, hF⟩, hb⟩)
  generalize o.f = F at P0 ⊢
  clear hF hb HN
  go_wp2_with fail
  go_loopw [4] (fun a wr => ∃ k : Nat, a = .int .i64 k ∧ k ≤ n ∧ PW w F [] 0 ac k wr) (fun a _ => n - (intOf a).toNat)
  case atStart => exact ⟨0, rfl, by omega, P0.out⟩
  case round =>
    obtain ⟨k, rfl, hk, ⟨o1, hf, hF⟩, hb⟩ := hrel
    have HF := Lib.hid hF
    have HB := Lib.hid hb
    have FE := Lib.hid hf
    clear hF hb hf
    by_cases e : k = n
    · subst e
      go_wp2_with fail
      go_ret
      have E := FE.out
      subst E
      have hT : ac.take k = ac := List.take_of_length_le (by rw [HL.out]; exact Nat.le_refl _)
      exact ⟨o1, rfl, by have := HF.out; rw [hT] at this; exact this.mono (by omega), HB.out⟩
    · have hlt : (k : Int) < (n : Int) := by omega
      have hka : k < ac.length := by rw [HL.out]; omega
      obtain ⟨b1, p1, rfl, hM⟩ := (HA.out.keep HB.out).get k hka
      have hok := HA.out.ok _ (List.getElem_mem hka)
      have HML := Lib.hid (show (playM [] (ac.take k)).length ≤ 60 from by have := playM_len (ac.take k) []; simp at this; omega)
      have HML2 := Lib.hid (show (playM [] (ac.take k)).length ≤ 0 + 100 * k from by have := playM_len (ac.take k) []; simp at this; omega)
      have NX := Lib.hid (fun t e w' s => PW.next (t := t) (e := e) (w' := w') HB.out hka FE.out HF.out s)
      have NXD := Lib.hid (fun t e w' s => PW.next (t := t) (e := e) (w' := w') (bk_drew HB.out) hka FE.out (HF.out.keep (w' := wr.drew) (fun _ _ => rfl)) s)
      generalize ac[k] = x at *
      clear hka
      obtain ⟨xu, xa, xb, xy⟩ := x
      obtain ⟨m0, m1, m2, m3⟩ := hM
      dsimp only at *
      cases xu with
      | true =>
        have U := Lib.hid (undo_st wr w.heap.size o1 _ _ HF.out (by omega) (by have := HML.out; omega) xa)
        rw [FE.out] at U
        go_wp2_with fail
        refine U.out.mono ?_
        intro e w2 s
        have S2 := Lib.hid (NX.out _ e w2 (by rw [stM_u rfl]; exact s))
        obtain ⟨rfl, _⟩ := s
        go_wp2_with fail
        go_roundw
        case rel => exact ⟨k + 1, by go_num, by omega, S2.out⟩
        case measure => simp [intOf]; omega
      | false =>
        have U := Lib.hid (link_st wr.drew w.heap.size o1 _ _ (HF.out.keep (w' := wr.drew) (fun _ _ => rfl)) (bk_size (bk_drew HB.out)) HML2.out (by omega) (by have := HML.out; omega) xa xb xy hok.1 hok.2.1 hok.2.2)
        rw [FE.out] at U
        go_wp2_with fail
        go_still_tail 16, (by kernel_rfl)
        change wpList _ _ _ _ _ wr.drew
        generalize wr.drew = wd at U NXD ⊢
        go_wp2_with fail
        refine U.out.mono ?_
        intro e w2 s
        have S2 := Lib.hid (NXD.out _ e w2 (by rw [stM_l rfl]; exact s))
        obtain ⟨rfl, _⟩ := s
        go_wp2_with fail
        go_roundw
        case rel => exact ⟨k + 1, by go_num, by omega, S2.out⟩
        case measure => simp [intOf]; omega
end Go.Proofs.Ytpnjmkmobdaefaa
