/- Simulate beside its reference. -/
import Derived.Test.YtbpmkbnldoeffaaH
import Derived.Test.YtbpmkbnldoeffaaI
import Derived.Deep.DeepCutAuto
namespace Go.Proofs.Ytbpmkbnldoeffaa
open Go.RowKit
set_option linter.unusedVariables false
set_option linter.unusedSimpArgs false
/-- v reads as the bools l -/
def Ro (w : World) (v : Value) (l : List Bool) : Prop := ∃ p cap, v = .slice p l.length cap ∧ (0 < l.length → ∃ b off, p = some ⟨b, off, none⟩ ∧ b < w.heap.size ∧ ∀ k, k < l.length → w.cell? ⟨b, off + k, none⟩ = some (.bool (l.getD k false)))
theorem Ro.below {w w' : World} {v : Value} {l : List Bool} (h : Ro w v l) (hb : Below w.heap.size w w') : Ro w' v l := by
  obtain ⟨p, cap, h1, h2⟩ := h
  refine ⟨p, cap, h1, fun h0 => ?_⟩
  obtain ⟨b, off, h3, h4, h5⟩ := h2 h0
  exact ⟨b, off, h3, Nat.lt_of_lt_of_le h4 hb.size, fun k hk => (hb.cell (p := ⟨b, off + k, none⟩) h4).trans (h5 k hk)⟩
theorem Ro.own {w : World} {B : Nat} {v : Value} {l : List Bool} (o : w.ownsRow B 4 1 v l.length (bools l)) : Ro w v l := by
  rcases o.2 with ⟨h, h0⟩ | ⟨g, cap, cur, hv, hb, hg, hn, _⟩
  · exact ⟨none, 0, by rw [h, h0], fun h => by omega⟩
  · subst hv
    refine ⟨_, cap, rfl, fun h0 => ⟨g, 0, rfl, (Array.getElem?_eq_some_iff.1 hg).1, fun k hk => ?_⟩⟩
    have := World.ownsRow.cells o (g := g) rfl k (.bool (l.getD k false)) (by simp [bools, List.getD_eq_getElem?_getD, hk])
    rw [show (⟨g, 0, none⟩ : Addr).add k = ⟨g, 0 + k, none⟩ from Go.WideShapes.add_plain _ _ _] at this
    exact this
def SimQ (w0 wc : World) (l : List Bool) (e : Ending) (w' : World) : Prop := ∃ r, e = .returned r ∧ Ro w' r l ∧ Below wc.heap.size wc w' ∧ BK w0 w'
theorem simq (w0 wc : World) (v : Value) (zs : List Int) (s : BO) (h : Rn w0 v zs) (hl : zs.length ≤ 100000) (hb : BK w0 wc) :
    Calls Try.prog 19 #[.agg #[.int .i64 s.1, .int .i64 s.2.1, .int .i64 s.2.2.1, .int .i64 s.2.2.2], v] wc (SimQ w0 wc (oks s zs zs.length)) := by
  refine (sim_any v zs s wc (h.below hb) hl).mono ?_
  rintro e w' ⟨r, rfl, ho, hb'⟩
  exact ⟨r, rfl, Ro.own (by rw [oks_len]; exact ho), hb', bk_chain hb hb'⟩
theorem rsimq (w0 wc : World) (v : Value) (zs : List Int) (s : BO) (h : Rn w0 v zs) (hl : zs.length ≤ 100000) (hb : BK w0 wc) :
    Calls Try.prog 20 #[.agg #[.int .i64 s.1, .int .i64 s.2.1, .int .i64 s.2.2.1, .int .i64 s.2.2.2], v] wc (SimQ w0 wc (oks s zs zs.length)) := by
  refine (rsim_any v zs s wc (h.below hb) hl).mono ?_
  rintro e w' ⟨r, rfl, ho, hb'⟩
  exact ⟨r, rfl, Ro.own (by rw [oks_len]; exact ho), hb', bk_chain hb hb'⟩
theorem Rn.shape {w : World} {v : Value} {zs : List Int} (h : Rn w v zs) : ∃ p c, v = .slice p zs.length c := by
  rcases h with ⟨a, cap, rfl, rfl⟩ | ⟨b, off, cap, rfl, _⟩
  · exact ⟨a, cap, rfl⟩
  · exact ⟨_, cap, rfl⟩
theorem bk_drewN {a b : World} (h : BK a b) (q : Nat) : BK a (b.drewN q) := below_drewN (B := a.heap.size) (a := a) (w := b) h q
theorem of_drew {a b : World} (h : Below a.drew.heap.size a.drew b) : Below a.heap.size a b := ⟨h.os, h.tape, h.output, h.size, h.block⟩
def Two (w0 : World) (l : List Bool) (s5 s6 : Value) (wx : World) : Prop := Ro wx s5 l ∧ Ro wx s6 l ∧ BK w0 wx
set_option maxRecDepth 100000 in
set_option maxHeartbeats 4000000 in
theorem law5_short (s : BO) (v : Value) (zs : List Int) (w : World) (h : Rn w v zs) (hl : zs.length ≤ 1000) : Calls Try.prog 5 #[.agg #[.int .i64 s.1, .int .i64 s.2.1, .int .i64 s.2.2.1, .int .i64 s.2.2.2], v] w fun e w' => e = .returned (.bool true) ∧ Below w.heap.size w w' := by
  obtain ⟨p, c, rfl⟩ := h.shape
  have hd : decide ((1000 : Int) < (zs.length : Int)) = false := by simp; omega
  have hi : ¬ (1000 : Int) < (zs.length : Int) := by omega
  have h0 := h.below (below_alloc w (.cells #[.int .i64 s.1, .int .i64 s.2.1, .int .i64 s.2.2.1, .int .i64 s.2.2.2] 26))
  have H1 := Lib.hid (fun wc hb => simq (w.alloc (.cells #[.int .i64 s.1, .int .i64 s.2.1, .int .i64 s.2.2.1, .int .i64 s.2.2.2] 26)) wc _ zs s h0 (by omega) hb)
  have H2 := Lib.hid (fun wc hb => rsimq (w.alloc (.cells #[.int .i64 s.1, .int .i64 s.2.1, .int .i64 s.2.2.1, .int .i64 s.2.2.2] 26)) wc _ zs s h0 (by omega) hb)
  have hlen := oks_len s zs zs.length
  have KC := Lib.hid (fun wc (hb : BK (w.alloc (.cells #[.int .i64 s.1, .int .i64 s.2.1, .int .i64 s.2.2.1, .int .i64 s.2.2.2] 26)) wc) => (box_new w (.int .i64 s.1) (.int .i64 s.2.1) (.int .i64 s.2.2.1) (.int .i64 s.2.2.2) 26).keep hb (by simp))
  have k0 : BK (w.alloc (.cells #[.int .i64 s.1, .int .i64 s.2.1, .int .i64 s.2.2.1, .int .i64 s.2.2.2] 26)) (w.alloc (.cells #[.int .i64 s.1, .int .i64 s.2.1, .int .i64 s.2.2.1, .int .i64 s.2.2.2] 26)) := BK.refl _
  generalize oks s zs zs.length = l at H1 H2 hlen
  have Hlen := Lib.hid hlen
  have hl' : l.length ≤ 1000 := by omega
  clear h h0 hlen
  go_enter Try.func5, Try.ntmps5
  go_wp2_with fail
  go_cut [5, 6] (fun s5 s6 wx => Two (w.alloc (.cells #[.int .i64 s.1, .int .i64 s.2.1, .int .i64 s.2.2.1, .int .i64 s.2.2.2] 26)) l s5 s6 wx)
  case first =>
    go_region_held3 (fun w' => w'.cell? ⟨w.heap.size, 0, none⟩ = some (.int .i64 s.1) ∧ w'.cell? ⟨w.heap.size, 1, none⟩ = some (.int .i64 s.2.1) ∧ w'.cell? ⟨w.heap.size, 2, none⟩ = some (.int .i64 s.2.2.1) ∧ w'.cell? ⟨w.heap.size, 3, none⟩ = some (.int .i64 s.2.2.2))
      (first | exact KC.out _ (by repeat (first | assumption | refine bk_drew ?_ | refine bk_alloc ?_ _)) | (go_keep; done))
      (first | (go_at_call 19; refine (H1.out _ (by repeat (first | assumption | refine bk_drew ?_ | refine bk_alloc ?_ _))).mono ?_; rintro e wa ⟨ra, rfl, ha, hba, hka⟩) | (go_at_call 20; refine (H2.out _ (by repeat (first | assumption | refine bk_drew ?_ | refine bk_alloc ?_ _))).mono ?_; rintro e wb ⟨rb, rfl, hb, hbb, hkb⟩))
    · have hra := ha.below (by first | exact hbb | exact of_drew hbb)
      have fin : Two (w.alloc (.cells #[.int .i64 s.1, .int .i64 s.2.1, .int .i64 s.2.2.1, .int .i64 s.2.2.2] 26)) l ra rb wb := ⟨hra, hb, hkb⟩
      have Fin := Lib.hid fin
      clear fin hra ha hb hba hbb hka hkb
      go_wp2_with fail
      go_meet
      case rel => exact Fin.out
  case rest =>
    obtain ⟨⟨pa, ca, rfl, ha⟩, ⟨pb, cb, rfl, hb⟩, hk⟩ := hcut
    have HA := Lib.hid ha
    have HB := Lib.hid hb
    have HK := Lib.hid hk
    clear ha hb hk
    go_wp2_with fail
    go_loopw [7] (fun x wr => ∃ k : Nat, k ≤ l.length ∧ x = .int .i64 k ∧ BK wc wr) (fun x _ => l.length - (intOf x).toNat)
    case atStart => exact ⟨0, Nat.zero_le _, rfl, BK.refl _⟩
    case round =>
      obtain ⟨k, hk, rfl, hkw⟩ := hrel
      have hbw : Below wc.heap.size wc wr := hkw
      have HW := Lib.hid hkw
      by_cases hlt : k < l.length
      · obtain ⟨ba, oa, rfl, hba, hca⟩ := HA.out (by omega)
        obtain ⟨bb, ob, rfl, hbb, hcb⟩ := HB.out (by omega)
        have d1 := (hbw.cell (p := ⟨ba, oa + k, none⟩) hba).trans (hca k hlt)
        have d2 := (hbw.cell (p := ⟨bb, ob + k, none⟩) hbb).trans (hcb k hlt)
        clear hca hcb hbw hkw
        generalize l.getD k false = x at d1 d2
        go_wp2_with fail
        go_quiet (fail)
        go_wp2_with fail
        go_roundw
        case rel => exact ⟨k + 1, by omega, by go_num, bk_drewN HW.out _⟩
        case measure => simp [intOf]; omega
      · clear hbw hkw
        go_wp2_with fail
        refine (lives_any _).mono ?_
        rintro e w9 ⟨rfl, hb9⟩
        have H9 := Lib.hid (bk_chain (bk_tr (bk_tr (bk_alloc (BK.refl w) _) HK.out) HW.out) hb9)
        clear hb9
        go_wp2_with fail
        go_ret
        exact ⟨rfl, H9.out⟩
set_option maxRecDepth 100000 in
set_option maxHeartbeats 4000000 in
theorem law5_long (s : BO) (p : Option Addr) (n c : Nat) (w : World) (hl : 1000 < n) : Calls Try.prog 5 #[.agg #[.int .i64 s.1, .int .i64 s.2.1, .int .i64 s.2.2.1, .int .i64 s.2.2.2], .slice p n c] w fun e w' => e = .returned (.bool true) ∧ Below w.heap.size w w' := by
  have hd : decide ((1000 : Int) < (n : Int)) = true := by simp; omega
  have hi : (1000 : Int) < (n : Int) := by omega
  go_enter Try.func5, Try.ntmps5
  go_wp2_with fail
  refine (lives_any _).mono ?_
  rintro e w9 ⟨rfl, hb9⟩
  have H9 := Lib.hid (bk_chain (bk_alloc (BK.refl w) _) hb9)
  clear hb9
  go_wp2_with fail
  go_ret
  exact ⟨rfl, H9.out⟩
theorem law5 (s : BO) (v : Value) (zs : List Int) (w : World) (h : Rn w v zs) : Calls Try.prog 5 #[.agg #[.int .i64 s.1, .int .i64 s.2.1, .int .i64 s.2.2.1, .int .i64 s.2.2.2], v] w fun e w' => e = .returned (.bool true) ∧ Below w.heap.size w w' := by
  by_cases hl : zs.length ≤ 1000
  · exact law5_short s v zs w h hl
  · obtain ⟨p, c, rfl⟩ := h.shape
    exact law5_long s p zs.length c w (by omega)
end Go.Proofs.Ytbpmkbnldoeffaa
