/- Turning a tree of links. -/
import Derived.Test.YtpnjmkmobdaefaaD
namespace Go.Proofs.Ytpnjmkmobdaefaa
open Go.RowKit Go.Maps
set_option linter.unusedVariables false
set_option linter.unusedSimpArgs false
def TP (w : World) (B : Nat) (o : FO) (M : List L3) (N : Nat) (id : Int) (e : Ending) (w' : World) : Prop := e = .returned (.tuple #[]) ∧ ∃ up', FB w' B { o with up := up' } M N ∧ UPI M up' ∧ up' id = none ∧ Step w w' o.foot o.foot
def TR (w : World) (B : Nat) (o : FO) (M : List L3) (N : Nat) (id0 : Int) (ρ : Int → Nat) (h : Option Nat) (id : Int) (wr : World) : Prop := okI id ∧ ∃ up, TI M o.up ρ id0 h id up ∧ FB wr B { o with up := up } M N ∧ Step w wr o.foot o.foot
def hI (h : Option Nat) : Int := h.elim 0 (fun k => (k : Int))
theorem hI_some (k : Nat) : hI (some k) = (k : Int) := rfl
theorem hI_none : hI none = 0 := rfl
theorem upI_getD (up : Int → Option Nat) (x : Int) : (upI up x).getD 0 = hI (up x) := by unfold upI hI; cases up x <;> rfl
theorem upI_isSome (up : Int → Option Nat) (x : Int) : (upI up x).isSome = (up x).isSome := by unfold upI; cases up x <;> rfl
set_option maxRecDepth 100000 in
set_option maxHeartbeats 1000000 in
theorem turn30 (w : World) (B : Nat) (o : FO) (M : List L3) (N : Nat) (h : FB w B o M N) (hN : M.length ≤ N) (hN2 : N < 900000) (u : UPI M o.up) (id : Int) (hid : okI id) (hk : M.length ≤ 1000) : Calls Try.prog 30 #[.pointer (some ⟨o.f, 0, none⟩), .int .i64 id] w (TP w B o M N id) := by
  obtain ⟨ρ, hr⟩ := u.acc
  have hl0 := h.mup.look hid
  rw [upI_getD, upI_isSome] at hl0
  obtain ⟨D, hD, hRd⟩ := h.mup
  have hkey := keyOf_int_mk Try.underlying3 (ok_wf hid)
  have c2 := h.k2
  have HF := Lib.hid h
  have HR := Lib.hid hr
  have HU := Lib.hid u
  have HI := Lib.hid hid
  have HRD := Lib.hid hRd
  clear h hr u hid hRd
  have T0 := Lib.hid (TI.start (ρ := ρ) HU.out id)
  generalize hh0 : o.up id = h0 at hl0 T0
  clear hh0
  go_enter Try.func30, Try.ntmps30
  go_wp2_with (at_delete; refine wpList_delete_own _ rfl _ _ 49 3 rfl 3 keyLaw Try.underlying49 _ o.mu N D rfl hD _ _ rfl hkey ?_)
  intro w1 hD1 ht1
  have S1 := Lib.hid (show TR w B o M N id ρ h0 id w1 from by
    have hm : MP w1 o.mu N (upI (upd o.up id none)) := ⟨_, hD1, by rw [← upI_put]; exact HRD.out.del id⟩
    obtain ⟨f, s⟩ := HF.out.mapU ht1 hm (Nat.le_refl _)
    exact ⟨HI.out, _, T0.out, f, s⟩)
  clear hD hD1 ht1 c2 hl0
  go_wp2_with fail
  go_loopw [1, 4, 5] (fun a b c wr => ∃ x h, a = .int .i64 x ∧ b = .int .i64 (hI h) ∧ c = .bool h.isSome ∧ TR w B o M N id ρ h x wr) (fun a _ _ _ => ρ (intOf a))
  case atStart => exact ⟨id, h0, rfl, rfl, rfl, S1.out⟩
  case round =>
    obtain ⟨x, hh, rfl, rfl, rfl, hx, up, ht, hf, hs⟩ := hrel
    have TT := Lib.hid ht
    have FF := Lib.hid hf
    have SS := Lib.hid hs
    have XX := Lib.hid hx
    clear ht hf hs hx
    cases hh with
    | none =>
      simp only [Option.isSome_none, hI_none]
      go_wp2_with fail
      go_end0
      exact ⟨rfl, up, FF.out, TT.out.u, TT.out.s0, SS.out⟩
    | some k =>
      obtain ⟨l, hl, hends⟩ := HU.out.ends x k TT.out.hold
      obtain ⟨T2, hlt⟩ := TT.out.step HU.out HR.out hl
      have hlM : l ∈ M := List.mem_of_getElem? hl
      have hv : okI (oth l x) := by
        have := HF.out.ok l hlM
        unfold oth; split
        · exact this.2.1
        · exact this.1
      have hkl : k < M.length := (List.getElem?_eq_some_iff.1 hl).1
      have hki : okI (k : Int) := ⟨by omega, by omega⟩
      have E36 := Lib.hid (end36 wr B _ M N FF.out k l hl (by omega) x)
      have hlk := FF.out.mup.look hv
      rw [upI_getD, upI_isSome] at hlk
      obtain ⟨D2, hD2, hR2⟩ := FF.out.mup
      have HR2 := Lib.hid hR2
      have hkey2 := keyOf_int_mk Try.underlying3 (ok_wf hv)
      have c2 := FF.out.k2
      have VV := Lib.hid hv
      have T2H := Lib.hid T2
      have LT := Lib.hid hlt
      have KI := Lib.hid hki
      clear hl hends hlM hkl hv hR2 T2 hlt hki
      dsimp only at hlk c2 E36 hD2
      generalize hvo : oth l x = v at E36 hlk hkey2 VV T2H LT
      generalize hnx : up v = nx at hlk T2H
      clear hvo hnx
      simp only [Option.isSome_some, hI_some]
      go_wp2_with fail
      refine E36.out.mono ?_
      rintro e w' ⟨rfl, rfl⟩
      go_wp2_with (at_mapUpdate; refine wpList_mapUpdate_in _ rfl _ _ _ 49 rfl 3 3 keyLaw Try.underlying49 _ o.mu N D2 rfl hD2 (by unfold maxLen; omega) _ _ (.int .i64 v) rfl rfl hkey2 (.lit (.int .i64 k)) [] (plainElem_int Try.underlying3 (ok_wf KI.out)) ?_)
      intro w2 hD3 ht2
      have S2 := Lib.hid (show TR w B o M N id ρ nx v w2 from by
        have hm : MP w2 o.mu (N + 1) (upI (upd up v (some k))) := ⟨_, hD3, by rw [← upI_put]; exact HR2.out.put v k⟩
        obtain ⟨f, s⟩ := FF.out.mapU ht2 hm (by omega)
        obtain ⟨f', _⟩ := FF.out.mapU ht2 ((mp_norm hm T2H.out.u).mono hN) (Nat.le_refl _)
        exact ⟨VV.out, _, T2H.out, f', SS.out.trans s⟩)
      clear hD2 hD3 ht2 hlk c2
      go_wp2_with fail
      go_roundw
      case rel => exact ⟨v, nx, rfl, rfl, rfl, S2.out⟩
      case measure => simpa [intOf] using LT.out
end Go.Proofs.Ytpnjmkmobdaefaa
