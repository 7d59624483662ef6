/- Undo. -/
import Derived.Test.YtpnjmkmobdaefaaO
namespace Go.Proofs.Ytpnjmkmobdaefaa
open Go.RowKit Go.Maps
set_option linter.unusedVariables false
set_option linter.unusedSimpArgs false
theorem undo27 (w : World) (B : Nat) (o : FO) (M : List L3) (N : Nat) (l : L3) (h : FS w B o (M ++ [l]) N) (hN2 : N < 800000) (hk : M.length ≤ 900) : Calls Try.prog 27 #[.pointer (some ⟨o.f, 0, none⟩)] w (ULP w B o M N) := by
  by_cases q : o.up l.a = some M.length
  · exact undo27_a w B o M N l h hN2 hk q
  · have hb : o.up l.b = some M.length := h.owner.resolve_left q
    cases e : o.up l.a with
    | none => exact undo27_b w B o M N l h hN2 hk e hb
    | some k => exact undo27_c w B o M N l h hN2 hk k (fun e' => q (by rw [e, e'])) e hb
theorem FS.mono {w : World} {B : Nat} {o : FO} {M : List L3} {N N' : Nat} (h : FS w B o M N) (hn : N ≤ N') : FS w B o M N' := ⟨h.fb.mono hn, h.wf, h.u, h.v⟩
def UP (w : World) (B : Nat) (o : FO) (M : List L3) (N : Nat) (n : Nat) (e : Ending) (w' : World) : Prop := e = .returned (.bool true) ∧ ∃ o', o'.f = o.f ∧ FS w' B o' (M.take n) (N + M.length) ∧ Step w w' o.foot o'.foot
def lnOf (f : Nat) (w : World) : Nat := match w.cell? ⟨f, 1, none⟩ with | some (.slice _ n _) => n | _ => 0
theorem lnOf_eq {w : World} {B : Nat} {o : FO} {M : List L3} {N : Nat} (h : FB w B o M N) : lnOf o.f w = M.length := by
  obtain ⟨p, c, e⟩ := own_shape h.links
  have := h.k1
  unfold lnOf
  rw [this, e]
def UR (w : World) (B : Nat) (o : FO) (M : List L3) (N n : Nat) (k : Nat) (wr : World) : Prop := n ≤ k ∧ k ≤ M.length ∧ ∃ o1, o1.f = o.f ∧ FS wr B o1 (M.take k) (N + (M.length - k)) ∧ Step w wr o.foot o1.foot
theorem UR.start {w : World} {B : Nat} {o : FO} {M : List L3} {N n : Nat} (h : FS w B o M N) (hn : n ≤ M.length) : UR w B o M N n M.length w :=
  ⟨hn, Nat.le_refl _, o, rfl, by rw [List.take_length]; exact h.mono (by omega), Step.refl _ _⟩
set_option maxHeartbeats 1000000 in
theorem undo14_no (w : World) (B : Nat) (o : FO) (M : List L3) (N : Nat) (h : FS w B o M N) (n : Int) (hn : n < 0 ∨ (M.length : Int) < n) : Calls Try.prog 14 #[.pointer (some ⟨o.f, 0, none⟩), .int .i64 n] w fun e w' => e = .returned (.bool false) ∧ w = w' := by
  have US := Lib.hid (usable_yes o.f w h.fb.k0)
  obtain ⟨p, c, e⟩ := own_shape h.fb.links
  have c1 := h.fb.k1
  rw [e] at c1
  clear h e
  by_cases h1 : n < 0
  · clear hn
    go_enter Try.func14, Try.ntmps14
    go_wp2_with fail
    refine US.out.mono ?_
    rintro e w' ⟨rfl, rfl⟩
    go_wp2_with fail
    go_ret
    exact ⟨rfl, rfl⟩
  · have h2 : (M.length : Int) < n := by omega
    clear hn
    generalize M.length = m at *
    go_enter Try.func14, Try.ntmps14
    go_wp2_with fail
    refine US.out.mono ?_
    rintro e w' ⟨rfl, rfl⟩
    go_wp2_with fail
    go_ret
    exact ⟨rfl, rfl⟩
set_option maxHeartbeats 1000000 in
theorem undo14 (w : World) (B : Nat) (o : FO) (M : List L3) (N : Nat) (h : FS w B o M N) (n : Nat) (hn : n ≤ M.length) (hN : N < 700000) (hk : M.length ≤ 900) : Calls Try.prog 14 #[.pointer (some ⟨o.f, 0, none⟩), .int .i64 n] w (UP w B o M N n) := by
  have US := Lib.hid (usable_yes o.f w h.fb.k0)
  obtain ⟨p, c, e⟩ := own_shape h.fb.links
  have c1 := h.fb.k1
  rw [e] at c1
  have S0 := Lib.hid (UR.start h hn)
  clear h e
  have h1 : ¬ (n : Int) < 0 := by omega
  have h2 : ¬ (M.length : Int) < (n : Int) := by omega
  generalize hm : M.length = m at *
  have HM := Lib.hid hm
  clear hm
  have hd1 : decide ((n : Int) < 0) = false := decide_eq_false (by omega)
  have hd2 : decide (m < n) = false := decide_eq_false (by omega)
  go_enter Try.func14, Try.ntmps14
  go_wp2_with fail
  refine US.out.mono ?_
  rintro e w' ⟨rfl, rfl⟩
  go_wp2_with fail
  clear c1 US
  go_loopw [] (fun wr => ∃ k, UR w B o M N n k wr) (fun wr => lnOf o.f wr)
  case atStart => exact ⟨_, S0.out⟩
  case round =>
    obtain ⟨k, u1, u2, o1, hf, hS, hst⟩ := hrel
    have HF := Lib.hid hf
    have HS := Lib.hid hS
    have HT := Lib.hid hst
    obtain ⟨p1, cc1, e1⟩ := own_shape hS.fb.links
    have c1 := hS.fb.k1
    have LN := Lib.hid (lnOf_eq hS.fb)
    rw [e1, hf, List.length_take] at c1
    have ek : min k M.length = k := Nat.min_eq_left (by rw [HM.out]; exact HM.out ▸ u2)
    rw [ek] at c1
    clear hS hst hf e1 ek
    by_cases q : k = n
    · subst q
      go_wp2_with fail
      go_ret
      exact ⟨rfl, o1, HF.out, HS.out.mono (by omega), HT.out⟩
    · have hlt : (n : Int) < (k : Int) := by omega
      obtain ⟨j, rfl⟩ : ∃ j, k = j + 1 := ⟨k - 1, by omega⟩
      have hj : j < M.length := by have := HM.out; omega
      have E : M.take (j + 1) = M.take j ++ [M[j]] := by rw [List.take_succ_eq_append_getElem hj]
      have HU := Lib.hid (undo27 wr B o1 (M.take j) _ M[j] (by rw [← E]; exact HS.out) (by have := HM.out; omega) (by rw [List.length_take]; have := HM.out; omega))
      rw [HF.out] at HU
      clear E hj
      go_wp2_with fail
      refine HU.out.mono ?_
      rintro e w2 ⟨rfl, o2, f2, s2, t2⟩
      have H2 := Lib.hid (show UR w B o M N n j w2 from ⟨by omega, by omega, o2, f2.trans HF.out, s2.mono (by have := HM.out; omega), HT.out.trans t2⟩)
      have LN2 := Lib.hid (lnOf_eq s2.fb)
      have F2 := Lib.hid f2
      clear f2 s2 t2
      go_wp2_with fail
      go_roundw
      case rel => exact ⟨j, H2.out⟩
      case measure =>
        have a := LN.out
        have b := LN2.out
        rw [HF.out, List.length_take] at a
        rw [F2.out, HF.out, List.length_take] at b
        have := HM.out
        simp only [a, b]
        omega
end Go.Proofs.Ytpnjmkmobdaefaa
