/- One call on both: the queries, walked. -/
import Derived.Test.YtihoegihmgeenaaAD
import Derived.Deep.RegionHeld3
import Derived.Deep.RegionWith
namespace Go.Proofs.Ytihoegihmgeenaa
open Go.RowKit
set_option linter.unusedVariables false
set_option linter.unusedSimpArgs false
def BK (w0 w' : World) : Prop := Below w0.heap.size w0 w'
theorem BK.refl (w : World) : BK w w := Below.refl _ _
theorem kd_drew {w0 wc : World} (h : BK w0 wc) : BK w0 wc.drew := below_drawn (B := w0.heap.size) (a := w0) (b := wc) h 1
structure Looks (w0 : World) (b : Nat) (lv : Value) (x y : Int) (FI : Int → Int) (sb : Bool) (ML : List Int) : Prop where
  c18 : ∀ wc, BK w0 wc → Calls Try.prog 18 #[.pointer (some ⟨b, 0, none⟩), .int .i64 x] wc fun e w' => e = .returned (.int .i64 (FI x)) ∧ BK w0 w'
  c34 : ∀ wc z, BK w0 wc → Calls Try.prog 34 #[lv, .int .i64 z] wc fun e w' => e = .returned (.int .i64 (FI z)) ∧ BK w0 w'
  c17 : ∀ wc, BK w0 wc → Calls Try.prog 17 #[.pointer (some ⟨b, 0, none⟩), .int .i64 x, .int .i64 y] wc fun e w' => e = .returned (.bool sb) ∧ BK w0 w'
  c20 : ∀ wc, BK w0 wc → Calls Try.prog 20 #[.pointer (some ⟨b, 0, none⟩), .int .i64 x] wc fun e w' => ∃ v, e = .returned v ∧ BK w0 w' ∧ Rd w' v ML
  c25 : ∀ wc v, BK w0 wc → Rd wc v ML → Calls Try.prog 25 #[lv, .int .i64 x] wc fun e w' => ∃ v2, e = .returned v2 ∧ BK w0 w' ∧ Rd w' v ML ∧ Rd w' v2 ML
  c23 : ∀ wc v v2, BK w0 wc → Rd wc v ML → Rd wc v2 ML → Calls Try.prog 23 #[v, v2] wc fun e w' => e = .returned (.bool true) ∧ BK w0 w'
set_option maxRecDepth 100000 in
set_option maxHeartbeats 4000000 in
theorem look_pos (b : Nat) (p : Option Addr) (n c : Nat) (kd x y : Int) (FI : Int → Int) (sb : Bool) (ML : List Int) (w : World) (h1 : (kd == 1) = false) (h2 : (kd == 2) = false) (h3 : (kd == 3) = false) (hFA : 0 ≤ FI x) (hsb : (FI x == FI y) = sb)
    (C : Looks (w.alloc (.cells #[.int .i64 kd, .int .i64 x, .int .i64 y] 33)) b (.slice p n c) x y FI sb ML) :
    Calls Try.prog 21 #[.pointer (some ⟨b, 0, none⟩), .slice p n c, .agg #[.int .i64 kd, .int .i64 x, .int .i64 y]] w fun e w' => e = .returned (.tuple #[.slice p n c, .bool true]) ∧ Below w.heap.size w w' := by
  have HC := Lib.hid C
  have k0 : BK (w.alloc (.cells #[.int .i64 kd, .int .i64 x, .int .i64 y] 33)) (w.alloc (.cells #[.int .i64 kd, .int .i64 x, .int .i64 y] 33)) := BK.refl _
  have KC : Hid (∀ w', BK (w.alloc (.cells #[.int .i64 kd, .int .i64 x, .int .i64 y] 33)) w' → w'.cell? ⟨w.heap.size, 1, none⟩ = some (.int .i64 x) ∧ w'.cell? ⟨w.heap.size, 2, none⟩ = some (.int .i64 y)) := Lib.hid (fun w' hb => by
    obtain ⟨_, a1, a2⟩ := act_cells (heap_alloc_new w (.cells #[.int .i64 kd, .int .i64 x, .int .i64 y] 33))
    have hb : Below _ _ _ := hb
    exact ⟨(hb.cell (p := ⟨w.heap.size, 1, none⟩) (by simp)).trans a1, (hb.cell (p := ⟨w.heap.size, 2, none⟩) (by simp)).trans a2⟩)
  have hge : decide (0 ≤ FI x) = true := by simpa using hFA
  have HW := Lib.hid (below_alloc w (.cells #[.int .i64 kd, .int .i64 x, .int .i64 y] 33))
  clear C
  go_enter Try.func21, Try.ntmps21
  go_wp2_with fail
  go_region_held3 (fun w' => w'.cell? ⟨w.heap.size, 1, none⟩ = some (.int .i64 x) ∧ w'.cell? ⟨w.heap.size, 2, none⟩ = some (.int .i64 y))
    (first | go_keep | exact KC.out _ (by first | assumption | exact kd_drew (by assumption)))
    (first | (go_at_call 34; refine (HC.out.c34 _ _ (by first | assumption | exact kd_drew (by assumption))).mono ?_; rintro e w' ⟨rfl, hb'⟩))
  go_wp2_with fail
  go_region_held3 (fun w' => w'.cell? ⟨w.heap.size, 1, none⟩ = some (.int .i64 x) ∧ w'.cell? ⟨w.heap.size, 2, none⟩ = some (.int .i64 y))
    (first | go_keep | exact KC.out _ (by first | assumption | exact kd_drew (by assumption)))
    (first | (go_at_call 34; refine (HC.out.c34 _ _ (by first | assumption | exact kd_drew (by assumption))).mono ?_; rintro e w' ⟨rfl, hb'⟩) | (go_at_call 18; refine (HC.out.c18 _ (by first | assumption | exact kd_drew (by assumption))).mono ?_; rintro e w' ⟨rfl, hb'⟩) | (go_at_call 17; refine (HC.out.c17 _ (by first | assumption | exact kd_drew (by assumption))).mono ?_; rintro e w' ⟨rfl, hb'⟩) | (go_at_call 20; refine (HC.out.c20 _ (by first | assumption | exact kd_drew (by assumption))).mono ?_; rintro e w' ⟨v, rfl, hb', hrd⟩) | (go_at_call 25; refine (HC.out.c25 _ _ (by first | assumption | exact kd_drew (by assumption)) (by assumption)).mono ?_; rintro e w' ⟨v2, rfl, hb', hrd1, hrd2⟩) | (go_at_call 23; refine (HC.out.c23 _ _ _ (by first | assumption | exact kd_drew (by assumption)) (by assumption) (by assumption)).mono ?_; rintro e w' ⟨rfl, hb'⟩))
  go_wp2_with fail
  go_ret2
  exact ⟨rfl, below_chain HW.out (by first | assumption | exact kd_drew (by assumption))⟩
end Go.Proofs.Ytihoegihmgeenaa
