/- Leaves: usable, root, end, parent. -/
import Derived.Test.YtpnjmkmobdaefaaB
namespace Go.Proofs.Ytpnjmkmobdaefaa
open Go.RowKit Go.Maps
set_option linter.unusedVariables false
set_option linter.unusedSimpArgs false
theorem info52 : ∃ j, Try.prog.info? 52 = some j := by
  cases h : Try.prog.info? 52 with
  | some j => exact ⟨j, rfl⟩
  | none =>
    have : (Try.prog.info? 52).isSome = true := by kernel_rfl
    rw [h] at this; cases this
set_option maxHeartbeats 400000 in
theorem usable_yes (f : Nat) (w : World) (hc : w.cell? ⟨f, 0, none⟩ = some (.pointer (some ⟨f, 0, none⟩))) : Calls Try.prog 26 #[.pointer (some ⟨f, 0, none⟩)] w fun e w' => e = .returned (.bool true) ∧ w = w' := by
  obtain ⟨j, hj⟩ := info52
  have he := run_eql_ptr_same (P := Try.prog) (w := w) ⟨f, 0, none⟩ Try.underlying23 hj
  go_enter Try.func26, Try.ntmps26
  go_wp2_with fail
  go_ret
  exact ⟨rfl, rfl⟩
set_option maxHeartbeats 400000 in
theorem usable_nil (w : World) : Calls Try.prog 26 #[.pointer none] w fun e w' => e = .returned (.bool false) ∧ w = w' := by
  go_enter Try.func26, Try.ntmps26
  go_wp2_with fail
  go_ret
  exact ⟨rfl, rfl⟩
set_option maxHeartbeats 400000 in
theorem usable_zero (f : Nat) (w : World) (hc : w.cell? ⟨f, 0, none⟩ = some (.pointer none)) : Calls Try.prog 26 #[.pointer (some ⟨f, 0, none⟩)] w fun e w' => e = .returned (.bool false) ∧ w = w' := by
  have he : (binOp .eql 23 (.pointer none) (.pointer (some ⟨f, 0, none⟩))).run Try.prog w = .ok (.bool false) w := by kernel_rfl
  go_enter Try.func26, Try.ntmps26
  go_wp2_with fail
  go_ret
  exact ⟨rfl, rfl⟩
/-- n steps lead from x to the root z -/
def RT (o : Int → Option Int) : Nat → Int → Int → Prop
  | 0, x, z => x = z ∧ o x = none
  | n + 1, x, z => ∃ y, o x = some y ∧ RT o n y z
theorem rt_root {o : Int → Option Int} : ∀ {n : Nat} {x z : Int}, RT o n x z → o z = none
  | 0, x, z, h => h.1 ▸ h.2
  | n + 1, x, z, h => by obtain ⟨y, _, h⟩ := h; exact rt_root h
theorem rt_cr {L : List L3} {C : List Int} {o : Int → Option Int} (v : OV L C o) : ∀ {n : Nat} {x z : Int}, RT o n x z → CR L x z
  | 0, x, z, h => by obtain ⟨rfl, _⟩ := h; exact cr_refl _ _
  | n + 1, x, z, h => by
    obtain ⟨y, h1, h2⟩ := h
    exact cr_trans L (ov_cr v x y h1) (rt_cr v h2)
theorem rt_ex {o : Int → Option Int} {ρ : Int → Nat} (hr : ∀ x y, o x = some y → ρ y < ρ x) : ∀ (m : Nat) (x : Int), ρ x ≤ m → ∃ n z, RT o n x z
  | m, x, hm => by
    cases e : o x with
    | none => exact ⟨0, x, rfl, e⟩
    | some y =>
      have h := hr x y e
      match m, hm with
      | 0, hm => omega
      | m + 1, hm =>
        obtain ⟨n, z, h2⟩ := rt_ex hr m y (by omega)
        exact ⟨n + 1, z, y, e, h2⟩
theorem rt_ok {w : World} {b N : Nat} {o : Int → Option Int} (h : MP w b N o) : ∀ {n : Nat} {x z : Int}, okI x → RT o n x z → okI z
  | 0, x, z, hx, hz => hz.1 ▸ hx
  | n + 1, x, z, hx, hz => by
    obtain ⟨y, h1, h2⟩ := hz
    exact rt_ok h (h.ok hx h1) h2
set_option maxHeartbeats 1000000 in
theorem root29 (w : World) (B : Nat) (o : FO) (M : List L3) (N : Nat) (h : FB w B o M N) (ρ : Int → Nat) (hr : ∀ x y, o.ov x = some y → ρ y < ρ x) (n0 : Nat) (id z : Int) (hid : okI id) (hz : RT o.ov n0 id z) : Calls Try.prog 29 #[.pointer (some ⟨o.f, 0, none⟩), .int .i64 id] w fun e w' => e = .returned (.int .i64 z) ∧ w = w' := by
  have c3 := h.k3
  have HM := Lib.hid h.mov
  have HR := Lib.hid hr
  have HZ := Lib.hid (⟨n0, hz⟩ : ∃ n, RT o.ov n id z)
  have HI := Lib.hid hid
  clear h hr hz hid
  generalize o.ov = ov at HM HR HZ
  generalize o.f = f at c3 ⊢
  generalize o.mo = mo at c3 HM
  go_enter Try.func29, Try.ntmps29
  go_wp2_with fail
  go_loop [1] (fun i => ∃ x n, i = .int .i64 x ∧ okI x ∧ RT ov n x z) (fun i => ρ (intOf i))
  case atStart => obtain ⟨n, hn⟩ := HZ.out; exact ⟨id, n, rfl, HI.out, hn⟩
  case round =>
    obtain ⟨x, n, rfl, hx, hn⟩ := hrel
    have hlk := HM.out.look hx
    have HX := Lib.hid hx
    clear hx
    cases n with
    | zero =>
      obtain ⟨rfl, e⟩ := hn
      rw [e] at hlk
      simp only [Option.isSome_none, Option.getD_none] at hlk
      clear e
      go_wp2_with fail
      go_ret
      exact ⟨rfl, rfl⟩
    | succ n =>
      obtain ⟨y, e, hn⟩ := hn
      have HN := Lib.hid hn
      have HL := Lib.hid (HR.out x y e)
      have HY := Lib.hid (HM.out.ok HX.out e)
      rw [e] at hlk
      simp only [Option.isSome_some, Option.getD_some] at hlk
      clear e hn
      go_wp2_with fail
      go_round
      case rel => exact ⟨y, n, rfl, HY.out, HN.out⟩
      case measure => simpa [intOf] using HL.out
set_option maxHeartbeats 1000000 in
theorem end36 (w : World) (B : Nat) (o : FO) (M : List L3) (N : Nat) (h : FB w B o M N) (k : Nat) (l : L3) (hl : M[k]? = some l) (hk : M.length ≤ 100000) (x : Int) : Calls Try.prog 36 #[.pointer (some ⟨o.f, 0, none⟩), .int .i64 k, .int .i64 x] w fun e w' => e = .returned (.int .i64 (oth l x)) ∧ w = w' := by
  obtain ⟨g, b, c, e, ⟨a0, a1, a2⟩, hkl⟩ := h.link hl
  have c1 := h.k1
  rw [e] at c1
  clear h hl e
  generalize M.length = n at *
  obtain ⟨la, lb, ly⟩ := l
  by_cases q : la = x
  · have HO := Lib.hid (show oth ⟨la, lb, ly⟩ x = lb from if_pos q)
    subst q
    go_enter Try.func36, Try.ntmps36
    go_wp2_with fail
    go_ret
    exact ⟨ret_int HO.out.symm, rfl⟩
  · have HO := Lib.hid (show oth ⟨la, lb, ly⟩ x = la from if_neg q)
    have hq : (la == x) = false := by simpa using q
    clear q
    go_enter Try.func36, Try.ntmps36
    go_wp2_with fail
    go_ret
    exact ⟨ret_int HO.out.symm, rfl⟩
set_option maxHeartbeats 1000000 in
theorem parent33 (w : World) (B : Nat) (o : FO) (M : List L3) (N : Nat) (h : FB w B o M N) (x : Int) (hx : okI x) (k : Nat) (l : L3) (hu : o.up x = some k) (hl : M[k]? = some l) (hk : M.length ≤ 100000) : Calls Try.prog 33 #[.pointer (some ⟨o.f, 0, none⟩), .int .i64 x] w fun e w' => e = .returned (.tuple #[.int .i64 (oth l x), .int .i64 l.y]) ∧ BK w w' := by
  obtain ⟨g, b, c, e, ⟨a0, a1, a2⟩, hkl⟩ := h.link hl
  have HE := Lib.hid (fun n => end36 (w.drewN n) B o M N (FB.keep h (fun _ _ => rfl)) k l hl hk x)
  have c1 := h.k1
  have c2 := h.k2
  have hlk := h.mup.look1 hx
  rw [show upI o.up x = some (k : Int) by unfold upI; rw [hu]; rfl] at hlk
  simp only [Option.getD_some] at hlk
  rw [e] at c1
  clear hl e hu
  generalize M.length = n at *
  generalize oth l x = z at HE ⊢
  obtain ⟨la, lb, ly⟩ := l
  clear h
  go_enter Try.func33, Try.ntmps33
  go_wp2_with fail
  go_quiet (go_must (go_at_call 36; exact Calls.quiet_of_same ((HE.out _).mono fun e w' h => ⟨h.1, h.2.symm⟩)))
  go_wp2_with fail
  go_ret2
  exact ⟨rfl, bk_drewN (BK.refl w) _⟩
end Go.Proofs.Ytpnjmkmobdaefaa
