/- The reference's List and SameInts. -/
import Derived.Test.YtkdpbmbkpepelaaDoorM
namespace Go.Proofs.YtkdpbmbkpepelaaDoor
open Go.RowKit
set_option linter.unusedVariables false
set_option linter.unusedSimpArgs false
set_option maxRecDepth 100000 in
set_option maxHeartbeats 4000000 in
theorem rlist23 (p : Option Addr) (c : Nat) (zs : List Int) (w : World) (hr : Ra w p zs) (hl : zs.length ≤ 3000) (hz : ∀ z ∈ zs, In64 z) :
    Calls Tryd.prog 23 #[.slice p zs.length c] w fun e w' => e = .returned (.string ⟨(lst zs).toArray⟩) ∧ BK w w' := by
  have HR := Lib.hid (fun wc (hb : BK w wc) => hr.keep hb)
  have HZ := Lib.hid hz
  clear hr hz
  go_enter Tryd.func23, Tryd.ntmps23
  go_wp2_with fail
  go_loopw [3, 4] (fun v x wr => ∃ (k : Nat) (L : List UInt8), k ≤ zs.length ∧ x = .int .i64 (k : Int) ∧ v = .string ⟨L.toArray⟩ ∧ Hid (L = lst (zs.take k)) ∧ BK w wr) (fun _ x _ => zs.length - (intOf x).toNat)
  case atStart => exact ⟨0, [], Nat.zero_le _, rfl, rfl, Lib.hid rfl, BK.refl _⟩
  case round =>
    obtain ⟨k, L, hk, rfl, rfl, hL, hb⟩ := hrel
    have HB := Lib.hid hb
    have hLl : L.length ≤ 66000 := by
      have h1 := lst_b (zs.take k) (in_take HZ.out k)
      rw [← hL.out, List.length_take] at h1
      omega
    by_cases hlt : k < zs.length
    · obtain ⟨b, off, rfl, hlb2, hcell⟩ := (HR.out _ hb) (by omega)
      have dd := hcell k hlt
      have HZ1 := Lib.hid (in_get HZ.out k hlt)
      have HSN := Lib.hid (lst_take zs k hlt)
      have hib := itoa_b HZ1.out
      clear hcell hb
      generalize zs.getD k 0 = z at dd HZ1 HSN hib
      have H14 := fun w => rint14 z HZ1.out w
      generalize hI : Lib.itoa z = I at HSN hib H14
      clear hI
      by_cases hk0 : k = 0
      · subst hk0
        rw [Nat.add_zero] at dd
        have HK := Lib.hid (show L ++ I = lst (zs.take (0 + 1)) by rw [HSN.out, if_pos rfl, hL.out]; rfl)
        have hs1 : ¬ 9223372036854775807 < L.length + I.length := by omega
        have HE := Lib.hid (show (⟨L.toArray⟩ : ByteArray) ++ ⟨I.toArray⟩ = ⟨(L ++ I).toArray⟩ from bl_inj (by rw [bl_app]))
        go_wp2_with (go_at_call 14; refine (H14 _).mono ?_; rintro e w2 ⟨rfl, hb2⟩; have HB2 := Lib.hid (bk_tr HB.out hb2); clear hb2)
        rw [HE.out]
        go_roundw
        case rel => exact ⟨1, _, by omega, by go_num, rfl, HK, HB2.out⟩
        case measure => simp [intOf]; omega
      · have ik0 : (0 : Int) < (k : Int) := by omega
        have HK := Lib.hid (show L ++ [32] ++ I = lst (zs.take (k + 1)) by rw [HSN.out, if_neg hk0, hL.out]; simp)
        have hs1 : ¬ 9223372036854775807 < L.length + 1 := by omega
        have HE1 := Lib.hid (show (⟨L.toArray⟩ : ByteArray) ++ ⟨#[32]⟩ = ⟨(L ++ [32]).toArray⟩ from bl_inj (by rw [bl_app]))
        obtain ⟨M, hM⟩ : ∃ M, M = L ++ [32] := ⟨_, rfl⟩
        have hMl : M.length ≤ 66001 := by rw [hM, List.length_append]; simp; omega
        rw [← hM] at HE1 HK
        clear hM
        have hs2 : ¬ 9223372036854775807 < M.length + I.length := by omega
        have HE := Lib.hid (show (⟨M.toArray⟩ : ByteArray) ++ ⟨I.toArray⟩ = ⟨(M ++ I).toArray⟩ from bl_inj (by rw [bl_app]))
        have he1 := HE1.out
        go_wp2_with (go_at_call 14; refine (H14 _).mono ?_; rintro e w2 ⟨rfl, hb2⟩; have HB2 := Lib.hid (bk_tr HB.out hb2); clear hb2)
        rw [HE.out]
        go_roundw
        case rel => exact ⟨k + 1, _, by omega, by go_num, rfl, HK, HB2.out⟩
        case measure => simp [intOf]; omega
    · obtain rfl : k = zs.length := by omega
      have HF := Lib.hid (show L = lst zs by have := hL.out; rwa [List.take_length] at this)
      clear hb
      go_wp2_with fail
      go_ret
      exact ⟨ret_str (by rw [HF.out]), HB.out⟩
theorem same_at {a b : List Int} (hl : a.length = b.length) (k : Nat) (hk : k < a.length) (h : a.getD k 0 ≠ b.getD k 0) : decide (a = b) = false := by
  apply decide_eq_false
  intro e
  rw [e] at h
  exact h rfl
theorem same_all {a b : List Int} (hl : a.length = b.length) (h : ∀ k, k < a.length → a.getD k 0 = b.getD k 0) : decide (a = b) = true := by
  apply decide_eq_true
  apply List.ext_getElem hl
  intro i h1 h2
  have := h i h1
  rw [List.getD_eq_getElem?_getD, List.getElem?_eq_getElem h1, List.getD_eq_getElem?_getD, List.getElem?_eq_getElem h2] at this
  exact this
set_option maxRecDepth 100000 in
set_option maxHeartbeats 4000000 in
theorem same24 (p q : Option Addr) (c d : Nat) (a b : List Int) (w : World) (hp : Ra w p a) (hq : Ra w q b) (hl : a.length ≤ 100000) (hl2 : b.length ≤ 100000) :
    Calls Tryd.prog 24 #[.slice p a.length c, .slice q b.length d] w fun e w' => e = .returned (.bool (decide (a = b))) ∧ BK w w' := by
  by_cases hab : a.length = b.length
  · have HA := Lib.hid (fun wc (hb : BK w wc) => hp.keep hb)
    have HQ := Lib.hid (fun wc (hb : BK w wc) => hq.keep hb)
    have HAB := Lib.hid hab
    rw [← hab]
    clear hp hq hl2 hab
    go_enter Tryd.func24, Tryd.ntmps24
    go_wp2_with fail
    go_loopw [5] (fun x wr => ∃ k : Nat, k ≤ a.length ∧ x = .int .i64 (k : Int) ∧ Hid (∀ j, j < k → a.getD j 0 = b.getD j 0) ∧ BK w wr) (fun x _ => a.length - (intOf x).toNat)
    case atStart => exact ⟨0, Nat.zero_le _, rfl, Lib.hid (fun j hj => absurd hj (by omega)), BK.refl _⟩
    case round =>
      obtain ⟨k, hk, rfl, heq, hb⟩ := hrel
      have HB := Lib.hid hb
      by_cases hlt : k < a.length
      · obtain ⟨b1, o1, rfl, _, hc1⟩ := (HA.out _ hb) (by omega)
        obtain ⟨b2, o2, rfl, _, hc2⟩ := (HQ.out _ hb) (by have := HAB.out; omega)
        have d1 := hc1 k hlt
        have d2 := hc2 k (by have := HAB.out; omega)
        clear hc1 hc2 hb
        by_cases he : a.getD k 0 = b.getD k 0
        · have HN := Lib.hid (show ∀ j, j < k + 1 → a.getD j 0 = b.getD j 0 from fun j hj => by
            rcases Nat.lt_or_ge j k with h | h
            · exact heq.out j h
            · rw [show j = k by omega]; exact he)
          rw [← he] at d2
          have HBD := Lib.hid (bk_drew HB.out)
          generalize a.getD k 0 = z at d1 d2
          clear he
          go_wp2_with fail
          go_region
          go_wp2_with fail
          go_roundw
          case rel => exact ⟨k + 1, by omega, by go_num, HN, HBD.out⟩
          case measure => simp [intOf]; omega
        · have HF := Lib.hid (same_at HAB.out k hlt he)
          have HBD := Lib.hid (bk_drew HB.out)
          generalize a.getD k 0 = y at d1 he
          generalize b.getD k 0 = z at d2 he
          go_wp2_with fail
          go_region
          go_wp2_with fail
          go_ret
          exact ⟨ret_bool HF.out.symm, HBD.out⟩
      · obtain rfl : k = a.length := by omega
        have HF := Lib.hid (same_all HAB.out heq.out)
        clear hb
        go_wp2_with fail
        go_ret
        exact ⟨ret_bool HF.out.symm, HB.out⟩
  · have HF := Lib.hid (show decide (a = b) = false from decide_eq_false (fun e => hab (by rw [e])))
    have hne : (((a.length : Nat) : Int) != ((b.length : Nat) : Int)) = true := by rw [bne_iff_ne]; omega
    generalize a.length = m at hne ⊢
    generalize b.length = n at hne ⊢
    go_enter Tryd.func24, Tryd.ntmps24
    go_wp2_with fail
    go_ret
    exact ⟨ret_bool HF.out.symm, BK.refl _⟩
end Go.Proofs.YtkdpbmbkpepelaaDoor
