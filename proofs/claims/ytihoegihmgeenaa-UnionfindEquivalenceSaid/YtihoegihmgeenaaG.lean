/- Union. -/
import Derived.Test.YtihoegihmgeenaaE
import Derived.Deep.RegionLaw
namespace Go.Proofs.Ytihoegihmgeenaa
open Go.RowKit
set_option linter.unusedVariables false
set_option linter.unusedSimpArgs false
set_option maxHeartbeats 1000000 in
theorem union_none (B b : Nat) (h : List HOp) (F : Nat → Prop) (x y : Int) (w : World) (u : U w B b h F) (hn : (hasB h x && hasB h y) = false) :
    Calls Try.prog 14 #[.pointer (some ⟨b, 0, none⟩), .int .i64 x, .int .i64 y] w fun e w' => e = .returned (.tuple #[.int .i64 (-1), .bool false]) ∧ w = w' := by
  have hus := Lib.hid (usable_any B b h F w u)
  have h1 := Lib.hid (has_any B b h F x w u)
  have h2 := Lib.hid (has_any B b h F y w u)
  cases hx : hasB h x with
  | false =>
    have Hx := Lib.hid hx
    clear hn hx
    go_enter Try.func14, Try.ntmps14
    go_wp2_with fail
    refine hus.out.mono ?_; rintro e w' ⟨rfl, rfl⟩
    go_wp2_with fail
    refine h1.out.mono ?_; rintro e w' ⟨rfl, rfl⟩
    rw [Hx.out]
    go_wp2
    go_ret2
    exact ⟨rfl, rfl⟩
  | true =>
    have Hx := Lib.hid hx
    have Hy : Hid (hasB h y = false) := Lib.hid (by rw [hx] at hn; simpa using hn)
    clear hn hx
    go_enter Try.func14, Try.ntmps14
    go_wp2_with fail
    refine hus.out.mono ?_; rintro e w' ⟨rfl, rfl⟩
    go_wp2_with fail
    refine h1.out.mono ?_; rintro e w' ⟨rfl, rfl⟩
    rw [Hx.out]
    go_wp2_with fail
    refine h2.out.mono ?_; rintro e w' ⟨rfl, rfl⟩
    rw [Hy.out]
    go_wp2
    go_ret2
    exact ⟨rfl, rfl⟩
theorem has_nat {h : List HOp} {x : Nat} (hx : x < nE h) : hasB h x = true := by simp [hasB]; omega
set_option maxHeartbeats 1000000 in
theorem union_same (B b : Nat) (h : List HOp) (F : Nat → Prop) (x y : Nat) (w : World) (u : U w B b h F) (hs : h.length ≤ 1000) (hx : x < nE h) (hy : y < nE h) (he : R h x = R h y) :
    Calls Try.prog 14 #[.pointer (some ⟨b, 0, none⟩), .int .i64 x, .int .i64 y] w fun e w' => e = .returned (.tuple #[.int .i64 (lab h x : Nat), .bool false]) ∧ w = w' := by
  have hus := Lib.hid (usable_any B b h F w u)
  have h1 := has_any B b h F x w u
  have h2 := has_any B b h F y w u
  rw [has_nat hx] at h1
  rw [has_nat hy] at h2
  have H1 := Lib.hid h1
  have H2 := Lib.hid h2
  have r1 := root_any B b h F x w u hx hs
  have r2 := root_any B b h F y w u hy hs
  rw [← he] at r2
  have hok := u.ok
  have hR := R_lt h hok x hx
  have hne := nE_le h
  obtain ⟨v1, v2, v3, v4, v5, u⟩ := u
  obtain ⟨g, c, rfl, hc⟩ := lst_cell u x hx
  have k3 := u.acc.k3
  generalize R h x = r at r1 r2 hc hR
  generalize lab h x = l at hc
  have R1 := Lib.hid r1
  have R2 := Lib.hid r2
  have hR' : (r : Int) < (nE h : Int) := by omega
  clear h1 h2 r1 r2 u he
  go_enter Try.func14, Try.ntmps14
  go_wp2_with fail
  refine hus.out.mono ?_; rintro e w' ⟨rfl, rfl⟩
  go_wp2_with fail
  refine H1.out.mono ?_; rintro e w' ⟨rfl, rfl⟩
  go_wp2_with fail
  refine H2.out.mono ?_; rintro e w' ⟨rfl, rfl⟩
  go_wp2_with fail
  refine R1.out.mono ?_; rintro e w' ⟨rfl, rfl⟩
  go_wp2_with fail
  refine R2.out.mono ?_; rintro e w' ⟨rfl, rfl⟩
  go_wp2
  go_ret2
  exact ⟨rfl, rfl⟩
end Go.Proofs.Ytihoegihmgeenaa
