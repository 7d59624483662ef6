/- Package scheduler and its reference: Banned. -/
import Derived.Test.YtbpmkbnldoeffaaE
namespace Go.Proofs.Ytbpmkbnldoeffaa
open Go.RowKit
set_option linter.unusedVariables false
set_option linter.unusedSimpArgs false
/-- how many of the first k states are not ready -/
def bn (zs : List BO) (i : Int) : Nat → Int
  | 0 => 0
  | k + 1 => bn zs i k + if rdB (zs.getD k (0, 0, 0, 0)).2.2.2 i then 0 else 1
theorem bn_b (zs : List BO) (i : Int) (k : Nat) : 0 ≤ bn zs i k ∧ bn zs i k ≤ k := by
  induction k with
  | zero => simp [bn]
  | succ k ih => simp only [bn]; split <;> omega
set_option maxHeartbeats 4000000 in
theorem banned_some (b off cap : Nat) (zs : List BO) (i : Int) (w : World) (hl : zs.length ≤ 100000) (hb : b < w.heap.size)
    (hc : ∀ k, k < zs.length → w.cell? ⟨b, off + k * 4, none⟩ = some (.int .i64 (zs.getD k (0, 0, 0, 0)).1) ∧ w.cell? ⟨b, off + k * 4 + 1, none⟩ = some (.int .i64 (zs.getD k (0, 0, 0, 0)).2.1) ∧
    w.cell? ⟨b, off + k * 4 + 2, none⟩ = some (.int .i64 (zs.getD k (0, 0, 0, 0)).2.2.1) ∧ w.cell? ⟨b, off + k * 4 + 3, none⟩ = some (.int .i64 (zs.getD k (0, 0, 0, 0)).2.2.2)) :
    Calls Try.prog 15 #[.slice (some ⟨b, off, none⟩) zs.length cap, .int .i64 i] w fun e w' => e = .returned (.int .i64 (bn zs i zs.length)) ∧ Below w.heap.size w w' := by
  have HC := Lib.hid hc
  have HB := Lib.hid (bn_b zs i)
  clear hc
  go_enter Try.func15, Try.ntmps15
  go_wp2_with fail
  go_loopw [5, 10] (fun v x wr => ∃ k : Nat, k ≤ zs.length ∧ x = .int .i64 k ∧ v = .int .i64 (bn zs i k) ∧ Below w.heap.size w wr) (fun _ x _ => zs.length - (intOf x).toNat)
  case atStart => exact ⟨0, Nat.zero_le _, rfl, rfl, Below.refl _ _⟩
  case round =>
    obtain ⟨k, hk, rfl, rfl, hbw⟩ := hrel
    by_cases hlt : k < zs.length
    · have hbk := HB.out k
      have hs : bn zs i (k + 1) = bn zs i k + if rdB (zs.getD k (0, 0, 0, 0)).2.2.2 i then 0 else 1 := rfl
      obtain ⟨c0, c1, c2, c3⟩ := HC.out k hlt
      have d0 := (hbw.cell (p := ⟨b, off + k * 4, none⟩) hb).trans c0
      have d1 := (hbw.cell (p := ⟨b, off + k * 4 + 1, none⟩) hb).trans c1
      have d2 := (hbw.cell (p := ⟨b, off + k * 4 + 2, none⟩) hb).trans c2
      have d3 := (hbw.cell (p := ⟨b, off + k * 4 + 3, none⟩) hb).trans c3
      have hbz : b < wr.heap.size := Nat.lt_of_lt_of_le hb hbw.size
      have Hb := Lib.hid hbw
      have hsz := hbw.size
      have HS := Lib.hid hs
      clear c0 c1 c2 c3 hbw hs
      generalize zs.getD k (0, 0, 0, 0) = s at d0 d1 d2 d3 HS
      obtain ⟨l, bb, t, u⟩ := s
      simp only at d0 d1 d2 d3 HS
      generalize bn zs i k = n at hbk HS ⊢
      cases hr : rdB u i
      all_goals
        rw [hr] at HS
        have hry : ∀ w, Calls Try.prog 11 #[.agg #[.int .i64 l, .int .i64 bb, .int .i64 t, .int .i64 u], .int .i64 i] w fun e w' => e = .returned (.bool (rdB u i)) ∧ Below w.heap.size w w' := fun w => ready_any l bb t u i w
        rw [hr] at hry
        have HR := Lib.hid hry
        clear hr hry
        go_wp2_with (go_at_call 11; refine (HR.out _).mono ?_; rintro e w1 ⟨rfl, hb1⟩; have Hb1 := Lib.hid hb1; have hsz1 := hb1.size; clear hb1)
        go_roundw
        case rel => exact ⟨k + 1, by omega, by go_num, by rw [HS.out]; simp, (by refine Below.trans Hb.out ?_; refine Below.trans ?_ (Hb1.out.mono (by simp; omega)); repeat (first | exact Below.refl _ _ | refine Below.setCell ?_ (by first | omega | (simp; omega)) _ | refine Below.alloc ?_ (by first | omega | (simp; omega)) _))⟩
        case measure => simp [intOf]; omega
    · obtain rfl : k = zs.length := by omega
      go_wp2_with fail
      go_ret
      exact ⟨rfl, hbw⟩
set_option maxHeartbeats 4000000 in
theorem banned_zero (a : Option Addr) (cap : Nat) (i : Int) (w : World) :
    Calls Try.prog 15 #[.slice a 0 cap, .int .i64 i] w fun e w' => e = .returned (.int .i64 0) ∧ Below w.heap.size w w' := by
  go_enter Try.func15, Try.ntmps15
  go_wp2_with fail
  go_loop [5, 10] (fun v x => x = .int .i64 0 ∧ v = .int .i64 0) (fun _ _ => 0)
  case atStart => exact ⟨rfl, rfl⟩
  case round =>
    obtain ⟨rfl, rfl⟩ := hrel
    go_wp2_with fail
    go_ret
    exact ⟨rfl, Below.refl _ _⟩
theorem banned_any (v : Value) (zs : List BO) (i : Int) (w : World) (h : Rb w v zs) (hl : zs.length ≤ 100000) :
    Calls Try.prog 15 #[v, .int .i64 i] w fun e w' => e = .returned (.int .i64 (bn zs i zs.length)) ∧ Below w.heap.size w w' := by
  rcases h with ⟨a, cap, rfl, rfl⟩ | ⟨b, off, cap, rfl, _, h3, h4⟩
  · exact banned_zero a cap i w
  · exact banned_some b off cap zs i w hl h3 h4
set_option maxHeartbeats 4000000 in
theorem rbanned_some (b off cap : Nat) (zs : List BO) (i : Int) (w : World) (hl : zs.length ≤ 100000) (hb : b < w.heap.size)
    (hc : ∀ k, k < zs.length → w.cell? ⟨b, off + k * 4, none⟩ = some (.int .i64 (zs.getD k (0, 0, 0, 0)).1) ∧ w.cell? ⟨b, off + k * 4 + 1, none⟩ = some (.int .i64 (zs.getD k (0, 0, 0, 0)).2.1) ∧
    w.cell? ⟨b, off + k * 4 + 2, none⟩ = some (.int .i64 (zs.getD k (0, 0, 0, 0)).2.2.1) ∧ w.cell? ⟨b, off + k * 4 + 3, none⟩ = some (.int .i64 (zs.getD k (0, 0, 0, 0)).2.2.2)) :
    Calls Try.prog 16 #[.slice (some ⟨b, off, none⟩) zs.length cap, .int .i64 i] w fun e w' => e = .returned (.int .i64 (bn zs i zs.length)) ∧ Below w.heap.size w w' := by
  have HC := Lib.hid hc
  have HB := Lib.hid (bn_b zs i)
  clear hc
  go_enter Try.func16, Try.ntmps16
  go_wp2_with fail
  go_loopw [5, 6] (fun v x wr => ∃ k : Nat, k ≤ zs.length ∧ x = .int .i64 k ∧ v = .int .i64 (bn zs i k) ∧ Below w.heap.size w wr) (fun _ x _ => zs.length - (intOf x).toNat)
  case atStart => exact ⟨0, Nat.zero_le _, rfl, rfl, Below.refl _ _⟩
  case round =>
    obtain ⟨k, hk, rfl, rfl, hbw⟩ := hrel
    by_cases hlt : k < zs.length
    · have hbk := HB.out k
      have hs : bn zs i (k + 1) = bn zs i k + if rdB (zs.getD k (0, 0, 0, 0)).2.2.2 i then 0 else 1 := rfl
      obtain ⟨c0, c1, c2, c3⟩ := HC.out k hlt
      have d0 := (hbw.cell (p := ⟨b, off + k * 4, none⟩) hb).trans c0
      have d1 := (hbw.cell (p := ⟨b, off + k * 4 + 1, none⟩) hb).trans c1
      have d2 := (hbw.cell (p := ⟨b, off + k * 4 + 2, none⟩) hb).trans c2
      have d3 := (hbw.cell (p := ⟨b, off + k * 4 + 3, none⟩) hb).trans c3
      have hbz : b < wr.heap.size := Nat.lt_of_lt_of_le hb hbw.size
      have Hb := Lib.hid hbw
      have hsz := hbw.size
      have HS := Lib.hid hs
      clear c0 c1 c2 c3 hbw hs
      generalize zs.getD k (0, 0, 0, 0) = s at d0 d1 d2 d3 HS
      obtain ⟨l, bb, t, u⟩ := s
      simp only at d0 d1 d2 d3 HS
      generalize bn zs i k = n at hbk HS ⊢
      cases hr : rdB u i
      all_goals
        rw [hr] at HS
        have hry : ∀ w, Calls Try.prog 12 #[.agg #[.int .i64 l, .int .i64 bb, .int .i64 t, .int .i64 u], .int .i64 i] w fun e w' => e = .returned (.bool (rdB u i)) ∧ Below w.heap.size w w' := fun w => rready_any l bb t u i w
        rw [hr] at hry
        have HR := Lib.hid hry
        clear hr hry
        go_wp2_with (go_at_call 12; refine (HR.out _).mono ?_; rintro e w1 ⟨rfl, hb1⟩; have Hb1 := Lib.hid hb1; have hsz1 := hb1.size; clear hb1)
        go_roundw
        case rel => exact ⟨k + 1, by omega, by go_num, by rw [HS.out]; simp, (Hb.out.trans (Hb1.out.mono hsz))⟩
        case measure => simp [intOf]; omega
    · obtain rfl : k = zs.length := by omega
      go_wp2_with fail
      go_ret
      exact ⟨rfl, hbw⟩
set_option maxHeartbeats 4000000 in
theorem rbanned_zero (a : Option Addr) (cap : Nat) (i : Int) (w : World) :
    Calls Try.prog 16 #[.slice a 0 cap, .int .i64 i] w fun e w' => e = .returned (.int .i64 0) ∧ Below w.heap.size w w' := by
  go_enter Try.func16, Try.ntmps16
  go_wp2_with fail
  go_loop [5, 6] (fun v x => x = .int .i64 0 ∧ v = .int .i64 0) (fun _ _ => 0)
  case atStart => exact ⟨rfl, rfl⟩
  case round =>
    obtain ⟨rfl, rfl⟩ := hrel
    go_wp2_with fail
    go_ret
    exact ⟨rfl, Below.refl _ _⟩
theorem rbanned_any (v : Value) (zs : List BO) (i : Int) (w : World) (h : Rb w v zs) (hl : zs.length ≤ 100000) :
    Calls Try.prog 16 #[v, .int .i64 i] w fun e w' => e = .returned (.int .i64 (bn zs i zs.length)) ∧ Below w.heap.size w w' := by
  rcases h with ⟨a, cap, rfl, rfl⟩ | ⟨b, off, cap, rfl, _, h3, h4⟩
  · exact rbanned_zero a cap i w
  · exact rbanned_some b off cap zs i w hl h3 h4
end Go.Proofs.Ytbpmkbnldoeffaa
