/- Contracts of the functions of package opinfo that speak of widths. -/
import Derived.Test.YtngmhgcnohgaiaaDoorA
import Derived.BigQuiet
import Derived.Deep.QuietTactic
namespace Go.Proofs.YtngmhgcnohgaiaaDoor
open Go.RowKit
set_option linter.unusedVariables false
/-- new blocks alone -/
structure Up (w w' : World) : Prop where
  g : Grown w w'
  b : Below w.heap.size w w'
theorem Up.refl (w : World) : Up w w := ⟨Grown.refl _, Below.refl _ _⟩
theorem Up.drew {w w' : World} (h : Up w w') : Up w w'.drew := ⟨h.g.drew, h.b.drew⟩
theorem Up.drewN {w w' : World} (h : Up w w') (n : Nat) : Up w (w'.drewN n) := ⟨h.g, ⟨h.b.os, h.b.tape, h.b.output, h.b.size, h.b.block⟩⟩
theorem Up.alloc {w w' : World} (h : Up w w') (c : Array Value) (t : TypeId) : Up w (w'.alloc (.cells c t)) := ⟨h.g.alloc c t, h.b.alloc h.b.size _⟩
theorem Up.trans {a b c : World} (h : Up a b) (k : Up b c) : Up a c :=
  ⟨⟨World.keptBut_trans h.g.1 k.g.1, fun x => (k.g.2.1 x).trans (h.g.2.1 x), Nat.le_trans h.g.2.2 k.g.2.2⟩, h.b.trans (k.b.mono h.b.size)⟩
theorem Up.cell {w w' : World} (h : Up w w') {p : Addr} {v : Value} (hp : w.cell? p = some v) : w'.cell? p = some v := by
  have hb : p.block < w.heap.size := by
    by_cases hb : p.block < w.heap.size
    · exact hb
    · have : w.heap[p.block]? = none := by simp; omega
      simp [World.cell?, this] at hp
  rw [h.b.cell hb]; exact hp
theorem ret2 {a b : Int} {p : Int × Int} (h : p = (a, b)) : Ending.returned (.tuple #[.int .i64 a, .int .i64 b]) = .returned (.tuple #[.int .i64 p.1, .int .i64 p.2]) := by rw [h]
def okW (w : Int) : Bool := decide (0 ≤ w ∧ w ≤ 64)
theorem okW_iff (x : Int) : okW x = true ↔ 0 ≤ x ∧ x ≤ 64 := by unfold okW; simp
set_option maxHeartbeats 400000 in
theorem isWidth_any (x : Int) (w : World) : Calls Tryd.prog 14 #[.int .i64 x] w fun e w' => e = .returned (.bool (okW x)) ∧ w' = w := by
  go_enter Tryd.func14, Tryd.ntmps14
  go_wp2
  all_goals go_ret
  all_goals refine ⟨?_, rfl⟩
  · exact ret_bool (by unfold okW; rw [Bool.eq_iff_iff]; simp; omega)
  · exact ret_bool (by unfold okW; symm; apply decide_eq_false; omega)
def fitB (v x : Int) : Bool := decide (v < 2 ^ x.toNat)
theorem pow_pos (n : Nat) : (0 : Int) < 2 ^ n := Int.pow_pos (by omega)
theorem fit_eq (v x : Int) (h : 0 ≤ v) : (v / 2 ^ x.toNat == 0) = fitB v x := by
  unfold fitB
  have hp := pow_pos x.toNat
  rw [Bool.eq_iff_iff, beq_iff_eq, decide_eq_true_eq]
  constructor
  · intro he
    have := Int.lt_mul_ediv_self_add (x := v) hp
    rw [he] at this; omega
  · intro hl; exact Int.ediv_eq_zero_of_lt h hl
set_option maxHeartbeats 400000 in
theorem fits_any (v x : Int) (w : World) (h0 : 0 ≤ v) (h1 : 0 ≤ x) (h2 : x ≤ 64) : Calls Tryd.prog 16 #[.int .u64 v, .int .i64 x] w fun e w' => e = .returned (.bool (fitB v x)) ∧ w' = w := by
  go_enter Tryd.func16, Tryd.ntmps16
  go_wp2
  go_ret
  exact ⟨ret_bool (fit_eq v x h0), rfl⟩
theorem wrap_pow (x : Int) (h : x < 64) : IntKind.u64.wrap (2 ^ x.toNat) = 2 ^ x.toNat := by
  have h1 : (2 : Int) ^ x.toNat ≤ 2 ^ 63 := by
    have : (2 : Nat) ^ x.toNat ≤ 2 ^ 63 := Nat.pow_le_pow_right (by omega) (by omega)
    exact_mod_cast this
  have h2 := pow_pos x.toNat
  simp only [IntKind.wrap, IntKind.bits, IntKind.signed]
  have h3 : (2 : Int) ^ x.toNat % 2 ^ 64 = 2 ^ x.toNat := Int.emod_eq_of_lt (by omega) (by omega)
  simpa using h3
/-- the width of a leaf -/
def leafW (op x v : Int) : Int × Int := if okW x = true ∧ (op = 2 → 0 < x → x < 64 → fitB v x = true) then (x, 0) else (0, 3)
/-- the width of extract, zext and sext -/
def partsW (op x v y : Int) : Int × Int := if okW x = true ∧ 1 ≤ x ∧ 1 ≤ y ∧ (op = 21 → x ≤ y ∧ v ≤ y - x) ∧ (op ≠ 21 → y ≤ x) then (x, 0) else (0, 3)
theorem okW_x {x : Int} (h : okW x = true) : 0 ≤ x ∧ x ≤ 64 := (okW_iff x).1 h
/-- the width that an operator gives its value, and whether its condition holds -/
def woV (op x v : Int) : List Int → Int × Bool
  | [] => (x, okW x && (op != 2 || (x == 0 || fitB v x)))
  | [a] => if op = 21 then (x, decide (1 ≤ x ∧ x ≤ a ∧ v ≤ a - x)) else if op = 22 ∨ op = 23 then (x, decide (1 ≤ a ∧ a ≤ x) && okW x) else (a, true)
  | [a, b] => if op = 20 then (a + b, decide (1 ≤ a ∧ 1 ≤ b) && okW (a + b)) else if 16 ≤ op ∧ op ≤ 18 then (1, a == b) else (a, a == b)
  | [a, b, c] => (b, a == 1 && b == c)
  | _ => (0, false)
theorem retIB {a : Int} {b : Bool} {p : Int × Bool} (h : p = (a, b)) : Ending.returned (.tuple #[.int .i64 a, .bool b]) = .returned (.tuple #[.int .i64 p.1, .bool p.2]) := by rw [h]
set_option maxRecDepth 100000 in
set_option maxHeartbeats 400000 in
theorem wov0 (op x v : Int) (sl : Value) (w : World) (h0 : 0 ≤ v) (ho : op = 1 ∨ op = 2 ∨ op = 24 ∨ op = 25) : Calls Tryd.prog 15 #[.int .i64 op, .int .i64 x, .int .u64 v, sl] w fun e w' => e = .returned (.tuple #[.int .i64 (woV op x v []).1, .bool (woV op x v []).2]) ∧ Up w w' := by
  rcases ho with rfl | rfl | rfl | rfl
  all_goals
    go_enter Tryd.func15, Tryd.ntmps15
    go_wp2_with (first | (go_at_call 14; refine (isWidth_any _ _).mono ?_; rintro e w' ⟨rfl, rfl⟩) | (go_at_call 16; refine (fits_any _ _ _ h0 (okW_x (by assumption)).1 (okW_x (by assumption)).2).mono ?_; rintro e w' ⟨rfl, rfl⟩))
    all_goals
      go_ret2
      refine ⟨retIB ?_, Up.refl _⟩
      first
      | (show (x, okW x && true) = (x, okW x); rw [Bool.and_true])
      | (have g1 : okW x = true := by assumption
         show (x, okW x && (false || (x == 0 || fitB v x))) = _
         rw [g1]
         first
         | rfl
         | (have g2 : x = 0 := by assumption
            rw [g2]; rfl))
      | (have g1 : ¬ okW x = true := by assumption
         rw [Bool.not_eq_true] at g1; show (x, okW x && _) = (x, false); rw [g1]; rfl)
set_option maxHeartbeats 400000 in
theorem wov3 (x v a b c : Int) (bl off cap : Nat) (w : World) (c0 : w.cell? ⟨bl, off, none⟩ = some (.int .i64 a)) (c1 : w.cell? ⟨bl, off + 1, none⟩ = some (.int .i64 b)) (c2 : w.cell? ⟨bl, off + 2, none⟩ = some (.int .i64 c)) : Calls Tryd.prog 15 #[.int .i64 19, .int .i64 x, .int .u64 v, .slice (some ⟨bl, off, none⟩) 3 cap] w fun e w' => e = .returned (.tuple #[.int .i64 (woV 19 x v [a, b, c]).1, .bool (woV 19 x v [a, b, c]).2]) ∧ Up w w' := by
  by_cases h1 : a = 1
  · subst h1
    go_enter Tryd.func15, Tryd.ntmps15
    go_wp2_with fail
    go_quiet (fail)
    go_wp2_with fail
    go_ret2
    exact ⟨retIB (by simp [woV]), (Up.refl _).drewN _⟩
  · have hd : (a == 1) = false := by simpa using h1
    go_enter Tryd.func15, Tryd.ntmps15
    go_wp2_with fail
    go_quiet (fail)
    go_wp2_with fail
    go_ret2
    exact ⟨retIB (by simp [woV, h1]), (Up.refl _).drewN _⟩
set_option maxRecDepth 100000 in
set_option maxHeartbeats 1000000 in
theorem wov2 (op x v a b : Int) (bl off cap : Nat) (w : World) (ho : (5 ≤ op ∧ op ≤ 18) ∨ op = 20) (ha : 0 ≤ a ∧ a ≤ 64) (hb : 0 ≤ b ∧ b ≤ 64) (c0 : w.cell? ⟨bl, off, none⟩ = some (.int .i64 a)) (c1 : w.cell? ⟨bl, off + 1, none⟩ = some (.int .i64 b)) : Calls Tryd.prog 15 #[.int .i64 op, .int .i64 x, .int .u64 v, .slice (some ⟨bl, off, none⟩) 2 cap] w fun e w' => e = .returned (.tuple #[.int .i64 (woV op x v [a, b]).1, .bool (woV op x v [a, b]).2]) ∧ Up w w' := by
  obtain ⟨ha0, ha1⟩ := ha
  obtain ⟨hb0, hb1⟩ := hb
  rcases ho with ho | rfl
  · obtain ⟨o1, o2⟩ := ho
    by_cases h16 : 16 ≤ op
    · have o3 : op = 16 ∨ op = 17 ∨ op = 18 := by omega
      clear o1 o2 h16
      rcases o3 with rfl | rfl | rfl
      all_goals
        go_enter Tryd.func15, Tryd.ntmps15
        go_wp2_with fail
        go_quiet (fail)
        go_wp2_with fail
        go_ret2
        exact ⟨retIB (by simp [woV]), (Up.refl _).drewN _⟩
    · go_enter Tryd.func15, Tryd.ntmps15
      go_wp2_with fail
      go_quiet (fail)
      go_wp2_with fail
      go_ret2
      exact ⟨retIB (by simp only [woV]; rw [if_neg (by omega), if_neg (by omega)]), (Up.refl _).drewN _⟩
  · go_enter Tryd.func15, Tryd.ntmps15
    go_wp2_with fail
    go_quiet ((go_at_call 14; exact Calls.quiet_of_same ((isWidth_any _ _).mono fun _ _ h => h)))
    go_wp2
    all_goals
      go_ret2
      refine ⟨retIB ?_, (Up.refl _).drewN _⟩
      simp only [woV, okW]
      rw [if_pos trivial]
      refine Prod.ext rfl ?_
      rw [Bool.eq_iff_iff]; simp; omega
set_option maxHeartbeats 1000000 in
theorem wov1 (op x v a : Int) (bl off cap : Nat) (w : World) (ho : op = 3 ∨ op = 4 ∨ (21 ≤ op ∧ op ≤ 23) ∨ op = 26) (ha : 0 ≤ a ∧ a ≤ 64) (h0 : 0 ≤ v) (c0 : w.cell? ⟨bl, off, none⟩ = some (.int .i64 a)) : Calls Tryd.prog 15 #[.int .i64 op, .int .i64 x, .int .u64 v, .slice (some ⟨bl, off, none⟩) 1 cap] w fun e w' => e = .returned (.tuple #[.int .i64 (woV op x v [a]).1, .bool (woV op x v [a]).2]) ∧ Up w w' := by
  have ho : op = 3 ∨ op = 4 ∨ op = 26 ∨ op = 21 ∨ op = 22 ∨ op = 23 := by omega
  obtain ⟨ha0, ha1⟩ := ha
  rcases ho with rfl | rfl | rfl | rfl | rfl | rfl
  all_goals
    go_enter Tryd.func15, Tryd.ntmps15
    go_wp2_with (go_at_call 14; refine (isWidth_any _ _).mono ?_; rintro e w' ⟨rfl, rfl⟩)
    all_goals
      go_ret2
      refine ⟨retIB (Prod.ext rfl ?_), Up.refl _⟩
      simp only [woV]
      first
      | rfl
      | (rw [Bool.eq_iff_iff]; simp; omega)
      | (have g : 1 ≤ a ∧ a ≤ x := ⟨by assumption, by assumption⟩
         simp [g]; done)
end Go.Proofs.YtngmhgcnohgaiaaDoor
