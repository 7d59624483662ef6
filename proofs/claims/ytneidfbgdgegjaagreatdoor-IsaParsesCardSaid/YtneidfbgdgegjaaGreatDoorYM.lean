/- The law Parses, and what it calls: the reference's Check, Split and Parse; what is read is written. -/
import Derived.Test.YtneidfbgdgegjaaGreatDoorRX
import Derived.WalkSmall
import Derived.Test.YtneidfbgdgegjaaGreatDoorXM
import Derived.Deep.DeepCutAuto
import Derived.Test.YtneidfbgdgegjaaGreatDoorLM
import Derived.StillTailTactics
import Derived.Test.YtneidfbgdgegjaaGreatDoorPC
import Derived.Test.YtneidfbgdgegjaaGreatDoorDF
import Derived.Test.YtneidfbgdgegjaaGreatDoorWC
import Derived.Lib.ItoaLen
import Derived.Test.YtneidfbgdgegjaaGreatDoorDL
import Derived.Test.YtneidfbgdgegjaaGreatDoorDK
import Derived.Test.YtneidfbgdgegjaaGreatDoorRJ
import Derived.Test.YtneidfbgdgegjaaGreatDoorPS
namespace Go.Proofs.YtneidfbgdgegjaaGreatDoor
set_option linter.unusedVariables false
set_option linter.unusedSimpArgs false
/-! part XA -/
section
open Go.RowKit
def bitV (x i : Int) : Int := if 0 ≤ i ∧ i ≤ 63 then bits BinOp.and IntKind.u64 (x / 2 ^ i.toNat) 1 else 0
set_option maxHeartbeats 400000 in
theorem w85 (W : Int) (h1 : 1 ≤ W) (h2 : W ≤ 64) (w : World) : Calls Tryz.prog 85 #[.int .i64 W] w fun e w' => e = .returned (.int .i64 W) ∧ w = w' := by
  go_enter Tryz.func85, Tryz.ntmps85
  go_wp2
  all_goals go_ret
  all_goals exact ⟨ret_int (by omega), rfl⟩
set_option maxHeartbeats 400000 in
theorem bit86 (x i : Int) (w : World) : Calls Tryz.prog 86 #[.int .u64 x, .int .i64 i] w fun e w' => e = .returned (.int .u64 (bitV x i)) ∧ w = w' := by
  by_cases h : 0 ≤ i ∧ i ≤ 63
  · have hB := Lib.hid (show bitV x i = bits BinOp.and IntKind.u64 (x / 2 ^ i.toNat) 1 from if_pos h)
    obtain ⟨h0, h1⟩ := h
    go_enter Tryz.func86, Tryz.ntmps86
    go_wp2
    all_goals go_ret
    all_goals exact ⟨ret_int hB.out.symm, rfl⟩
  · have hB := Lib.hid (show bitV x i = 0 from if_neg h)
    by_cases h0 : i < 0
    · clear h
      go_enter Tryz.func86, Tryz.ntmps86
      go_wp2
      all_goals go_ret
      all_goals exact ⟨ret_int hB.out.symm, rfl⟩
    · have h1 : 63 < i := by omega
      clear h
      go_enter Tryz.func86, Tryz.ntmps86
      go_wp2
      all_goals go_ret
      all_goals exact ⟨ret_int hB.out.symm, rfl⟩
def upV (g : Nat → Int → Int) : Nat → Int
  | 0 => 0
  | k + 1 => g k (upV g k)
def cutG (x : Int) (k : Nat) (y : Int) : Int := bits BinOp.or IntKind.u64 y (IntKind.u64.wrap (bitV x k * 2 ^ k))
def cutV (W x : Int) : Int := upV (cutG x) W.toNat
set_option maxHeartbeats 1000000 in
theorem cut67 (W x : Int) (h1 : 1 ≤ W) (h2 : W ≤ 64) (w : World) : Calls Tryz.prog 67 #[.int .i64 W, .int .u64 x] w fun e w' => e = .returned (.int .u64 (cutV W x)) ∧ w = w' := by
  obtain ⟨n, rfl⟩ : ∃ n : Nat, W = n := ⟨W.toNat, by omega⟩
  have HZ := Lib.hid (show cutV n x = upV (cutG x) n from rfl)
  go_enter Tryz.func67, Tryz.ntmps67
  go_wp2_with (go_at_call 85; refine (w85 n h1 h2 _).mono ?_; rintro e w' ⟨rfl, rfl⟩)
  go_loop [5, 9] (fun m i => ∃ k : Nat, k ≤ n ∧ i = .int .i64 k ∧ m = .int .u64 (upV (cutG x) k)) (fun _ i => n - (intOf i).toNat)
  case atStart => exact ⟨0, Nat.zero_le _, rfl, rfl⟩
  case round =>
    obtain ⟨k, hk, rfl, rfl⟩ := hrel
    by_cases hlt : k < n
    · have HS := Lib.hid (show upV (cutG x) (k + 1) = cutG x k (upV (cutG x) k) from rfl)
      generalize upV (cutG x) k = m at HS ⊢
      go_wp2_with (go_at_call 86; refine (bit86 _ _ _).mono ?_; rintro e w' ⟨rfl, rfl⟩)
      go_round
      case rel => exact ⟨k + 1, by omega, by go_num, by rw [HS.out]; rfl⟩
      case measure => simp [intOf]; omega
    · obtain rfl : k = n := by omega
      go_wp2_with fail
      go_ret
      exact ⟨ret_int HZ.out.symm, rfl⟩
/-! what it comes to -/
theorem or_nat (a b : Nat) (ha : a < 18446744073709551616) (hb : b < 18446744073709551616) : bits BinOp.or IntKind.u64 (a : Int) (b : Int) = ((a ||| b : Nat) : Int) := by
  have hl : a ||| b < 2 ^ 64 := Nat.or_lt_two_pow (by omega) (by omega)
  have e : (BitVec.ofInt IntKind.u64.bits (a : Int) ||| BitVec.ofInt IntKind.u64.bits (b : Int)).toNat = a ||| b := by
    rw [BitVec.toNat_or, BitVec.toNat_ofInt, BitVec.toNat_ofInt, show IntKind.u64.bits = 64 from rfl, show (((a : Int) % ((2 ^ 64 : Nat) : Int)).toNat) = a by omega, show (((b : Int) % ((2 ^ 64 : Nat) : Int)).toNat) = b by omega]
  show IntKind.u64.wrap (((BitVec.ofInt IntKind.u64.bits (a : Int) ||| BitVec.ofInt IntKind.u64.bits (b : Int)).toNat : Nat) : Int) = _
  rw [e]
  exact IntWalk.u64_in _ (by omega)
theorem and_one (a : Nat) (ha : a < 18446744073709551616) : bits BinOp.and IntKind.u64 (a : Int) 1 = ((a % 2 : Nat) : Int) := by
  have e : (BitVec.ofInt IntKind.u64.bits (a : Int) &&& BitVec.ofInt IntKind.u64.bits (1 : Int)).toNat = a % 2 := by
    rw [BitVec.toNat_and, BitVec.toNat_ofInt, BitVec.toNat_ofInt, show IntKind.u64.bits = 64 from rfl, show (((a : Int) % ((2 ^ 64 : Nat) : Int)).toNat) = a by omega, show (((1 : Int) % ((2 ^ 64 : Nat) : Int)).toNat) = 1 by decide, Nat.and_one_is_mod]
  show IntKind.u64.wrap (((BitVec.ofInt IntKind.u64.bits (a : Int) &&& BitVec.ofInt IntKind.u64.bits (1 : Int)).toNat : Nat) : Int) = _
  rw [e]
  exact IntWalk.u64_in _ (by omega)
theorem bitV_nat (x k : Nat) (hk : k ≤ 63) (hx : x < 18446744073709551616) : bitV x k = ((x / 2 ^ k % 2 : Nat) : Int) := by
  unfold bitV
  rw [if_pos (by omega), show ((k : Int)).toNat = k by omega, show ((x : Int) / 2 ^ k) = ((x / 2 ^ k : Nat) : Int) by simp]
  exact and_one _ (Nat.lt_of_le_of_lt (Nat.div_le_self _ _) hx)
theorem pow_le64 {k : Nat} (hk : k ≤ 64) : 2 ^ k ≤ 18446744073709551616 := by
  rw [show (18446744073709551616 : Nat) = 2 ^ 64 by decide]
  exact Nat.pow_le_pow_right (by omega) hk
theorem cut_up (x : Nat) (hx : x < 18446744073709551616) : ∀ k, k ≤ 64 → upV (cutG x) k = ((x % 2 ^ k : Nat) : Int)
  | 0, _ => by simp [upV, Nat.mod_one]
  | k + 1, hk => by
    have ih := cut_up x hx k (by omega)
    show bits BinOp.or IntKind.u64 (upV (cutG x) k) (IntKind.u64.wrap (bitV x k * 2 ^ k)) = _
    rw [ih, bitV_nat x k (by omega) hx]
    have h1 : x % 2 ^ k < 2 ^ k := Nat.mod_lt _ (Nat.two_pow_pos k)
    have h2 := pow_le64 (k := k) (by omega)
    have h3 := pow_le64 hk
    have h4 : x / 2 ^ k % 2 < 2 := Nat.mod_lt _ (by omega)
    have h5 : x / 2 ^ k % 2 * 2 ^ k ≤ 1 * 2 ^ k := Nat.mul_le_mul (by omega) (Nat.le_refl _)
    have h6 : 2 ^ (k + 1) = 2 * 2 ^ k := by rw [Nat.pow_succ]; omega
    have h7 : ((x / 2 ^ k % 2 : Nat) : Int) * 2 ^ k = ((x / 2 ^ k % 2 * 2 ^ k : Nat) : Int) := by simp
    rw [h7, IntWalk.u64_in _ (by omega), or_nat _ _ (by omega) (by omega), Nat.or_comm, Nat.mul_comm, ← Nat.two_pow_add_eq_or_of_lt h1]
    congr 1
    rw [h6, Nat.mul_comm 2 (2 ^ k), Nat.mod_mul]
    omega
theorem cutV_nat (W x : Int) (h1 : 1 ≤ W) (h2 : W ≤ 64) (x0 : 0 ≤ x) (x1 : x < 18446744073709551616) : cutV W x = x ↔ x ≤ maskI W := by
  obtain ⟨n, rfl⟩ : ∃ n : Nat, W = n := ⟨W.toNat, by omega⟩
  obtain ⟨y, rfl⟩ : ∃ y : Nat, x = y := ⟨x.toNat, by omega⟩
  have e : cutV (n : Int) (y : Int) = ((y % 2 ^ n : Nat) : Int) := cut_up y (by omega) n (by omega)
  have em : maskI (n : Int) = ((2 ^ n : Nat) : Int) - 1 := by unfold maskI; simp
  rw [e, em]
  have hp := Nat.two_pow_pos n
  constructor
  · intro h
    have h : y % 2 ^ n = y := by omega
    have := Nat.mod_lt y hp
    omega
  · intro h
    rw [Nat.mod_eq_of_lt (by omega)]
end
/-! part XB -/
section
open Go.RowKit Go.Shelf
theorem own_one (w : World) (B : Nat) (hB : B ≤ w.heap.size) (x : Int) : (w.alloc (.cells #[.int .i64 x] 3)).ownsRow B 3 1 (.slice (some ⟨w.heap.size, 0, none⟩) 1 1) [x].length (ints [x]) :=
  ⟨by simp [ints], .inr ⟨w.heap.size, 1, #[.int .i64 x], rfl, hB, heap_alloc_new w _, Nat.le_refl _, by unfold maxLen; omega, by simp, by simp [ints]⟩⟩
theorem wpI {ops : Array Oper} {rest : List Oper} {o : Oper} {a : Act} {w : World} {Q : Exit → Act → World → Prop} (hgd : o.guard = none) (s x : Operand)
    (ho : o.op = .call { callee := .builtin .append, args := #[s, x], argTypes := #[32, 32] }) (base : Nat) (v : Value) (xs : List Int) (hs : a.eval s = v) (hown : w.ownsRow base 3 1 v xs.length (ints xs))
    (p : Option Addr) (c : Nat) (ys : List Int) (hx : a.eval x = .slice p ys.length c) (hro : RO w p c ys) (hsm : xs.length + ys.length ≤ 1000000) (hbase : base ≤ w.heap.size)
    (h : ∀ p' c' w', w'.ownsRow base 3 1 (.slice p' (xs.length + ys.length) c') (xs ++ ys).length (ints (xs ++ ys)) → w.grownBy w' v.ownBlock ∨ w' = w → wpList Tryz.prog ops Q rest (a.put o.dst (.slice p' (xs.length + ys.length) c')) w') : wpList Tryz.prog ops Q (o :: rest) a w := by
  obtain ⟨i0, hi, hz0, hz1, hz2⟩ := info_parts info3
  cases p with
  | none =>
    have hc := hro.nl rfl
    have hle := hro.le
    obtain rfl := List.eq_nil_of_length_eq_zero (show ys.length = 0 by omega)
    subst hc
    obtain ⟨p', c', rfl⟩ := own_shape hown
    exact wpList_append_own_none hgd s x 32 ho base 3 i0 1 Tryz.underlying32 hi _ xs.length (ints xs) hs hown hx (h p' c' w (by simpa using hown) (.inr rfl))
  | some ad =>
    refine wpList_append_own w hgd s x 32 ho base 3 i0 (.int .i64 0) 1 8 Tryz.underlying32 hi hz0 hz1 hz2 rfl (by decide) v xs.length (ints xs) hs hown ad ys.length c (ints ys) hx (by simp [ints]) (ro_src hro ad rfl) (ints_one ys) (by unfold maxLen; omega) (by omega) hbase ?_
    intro v' w' hown' hgrow _
    obtain ⟨p', c', rfl⟩ := own_shape hown'
    exact h p' c' w' (by rw [List.length_append]; simpa [ints] using hown') (.inl hgrow)
theorem bk_grownI {w0 w w' : World} {v : Value} {B n : Nat} {xs : List Value} (hb : BK w0 w) (ho : w.ownsRow B 3 1 v n xs) (hB : w0.heap.size ≤ B) (h : w.grownBy w' v.ownBlock ∨ w' = w) : BK w0 w' := by
  rcases h with h | rfl
  · exact Below.grown hb h hb.bl.size (fun j hj => Nat.le_trans hB (ho.lt j hj).1)
  · exact hb
def defL (i : I6) : List Int := (if dfB i.op = true then [i.dst] else []) ++ usesL i
theorem regB_defL (R : Int) (i : I6) : regB R i = (defL i).any (fun r => !inB R r) := by
  unfold regB defL
  cases dfB i.op <;> simp
theorem usesL_le3 (i : I6) : (usesL i).length ≤ 3 := by unfold usesL; rw [List.length_take]; simp only [List.length_cons, List.length_nil]; omega
theorem defL_len (i : I6) : (defL i).length ≤ 100 := by
  unfold defL
  have h1 := usesL_le3 i
  have h2 : (if dfB i.op = true then [i.dst] else []).length ≤ 1 := by split <;> simp
  rw [List.length_append]; omega
theorem cut_bool {o c x m : Int} (ho : o = 1) (h : c = x ↔ x ≤ m) : (c != x) = decide (o = 1 ∧ m < x) := by
  by_cases e : c = x
  · have := h.1 e
    rw [decide_eq_false (by omega)]; simpa using e
  · have : ¬ x ≤ m := fun g => e (h.2 g)
    rw [decide_eq_true ⟨ho, by omega⟩]; simpa using e
theorem junk_t {i : I6} (h : (i.op = 0 ∧ i.dst ≠ 0) ∨ (i.op ≠ 1 ∧ i.imm ≠ 0) ∨ (srcs i.op < 1 ∧ i.a ≠ 0) ∨ (srcs i.op < 2 ∧ i.b ≠ 0) ∨ (srcs i.op < 3 ∧ i.c ≠ 0)) : junkB i = true := by
  unfold junkB
  simp only [Bool.or_eq_true, Bool.and_eq_true, decide_eq_true_eq]
  omega
theorem junk_f {i : I6} (h : ¬ ((i.op = 0 ∧ i.dst ≠ 0) ∨ (i.op ≠ 1 ∧ i.imm ≠ 0) ∨ (srcs i.op < 1 ∧ i.a ≠ 0) ∨ (srcs i.op < 2 ∧ i.b ≠ 0) ∨ (srcs i.op < 3 ∧ i.c ≠ 0))) : junkB i = false := by
  cases e : junkB i
  · rfl
  · exfalso; apply h
    unfold junkB at e
    simp only [Bool.or_eq_true, Bool.and_eq_true, decide_eq_true_eq] at e
    omega
theorem op_class {op : Int} (h : 0 ≤ op ∧ op ≤ 19) : (op = 0 ∧ dfB op = false ∧ srcs op = 0) ∨ (op = 1 ∧ dfB op = true ∧ srcs op = 0) ∨ (2 ≤ op ∧ dfB op = true ∧ srcs op = 1) ∨ (2 ≤ op ∧ dfB op = true ∧ srcs op = 2) ∨ (2 ≤ op ∧ dfB op = true ∧ srcs op = 3) := by
  have hd : dfB op = decide (1 ≤ op ∧ op ≤ 19) := rfl
  rw [hd]
  unfold srcs
  rw [if_neg (by omega)]
  by_cases h0 : op = 0
  · left; refine ⟨h0, decide_eq_false (by omega), if_pos (by omega)⟩
  · by_cases h1 : op = 1
    · right; left; refine ⟨h1, decide_eq_true (by omega), if_pos (by omega)⟩
    · have ht : decide (1 ≤ op ∧ op ≤ 19) = true := decide_eq_true (by omega)
      rw [ht, if_neg (by omega)]
      by_cases h4 : op ≤ 4
      · right; right; left; exact ⟨by omega, rfl, if_pos h4⟩
      · rw [if_neg h4]
        by_cases h19 : op = 19
        · right; right; right; right; exact ⟨by omega, rfl, if_pos h19⟩
        · right; right; right; left; exact ⟨by omega, rfl, if_neg h19⟩
def RE (w : World) (x : Int) (e : Ending) (w' : World) : Prop := e = .returned (.int .i64 x) ∧ BK w w'
def AllIn (R : Int) (l : List Int) : Prop := ∀ r ∈ l, inB R r = true
theorem allin_snoc {R : Int} {l : List Int} {k : Nat} (hk : k < l.length) (h : AllIn R (l.take k)) (h2 : inB R l[k] = true) : AllIn R (l.take (k + 1)) := by
  intro r hr
  rw [List.take_succ_eq_append_getElem hk] at hr
  rcases List.mem_append.1 hr with hr | hr
  · exact h r hr
  · rw [List.mem_singleton.1 hr]; exact h2
theorem allin_any {R : Int} {l : List Int} (h : AllIn R l) : l.any (fun r => !inB R r) = false := by
  apply List.any_eq_false.2
  intro r hr
  rw [h r hr]; simp
theorem any_at {R : Int} {l : List Int} {k : Nat} (hk : k < l.length) (h : inB R l[k] = false) : l.any (fun r => !inB R r) = true := by
  apply List.any_eq_true.2
  exact ⟨l[k], List.getElem_mem hk, by rw [h]; rfl⟩
set_option maxRecDepth 100000 in
set_option maxHeartbeats 1000000 in
theorem rins_bad (W R : Int) (p q : Option Addr) (n' pc m qc : Nat) (i : I6) (w : World) (hv : opB i.op = false) : Calls Tryz.prog 43 #[.agg #[.int .i64 W, .int .i64 R, .slice p n' pc, .slice q m qc], .agg #[.int .i64 i.op, .int .i64 i.dst, .int .i64 i.a, .int .i64 i.b, .int .i64 i.c, .int .u64 i.imm]] w (RE w 4) := by
  have k0 := bk_alloc (bk_alloc (BK.refl w) (.cells #[.int .i64 W, .int .i64 R, .slice p n' pc, .slice q m qc] 34)) (.cells #[.int .i64 i.op, .int .i64 i.dst, .int .i64 i.a, .int .i64 i.b, .int .i64 i.c, .int .u64 i.imm] 42)
  have hx := x6_new (w.alloc (.cells #[.int .i64 W, .int .i64 R, .slice p n' pc, .slice q m qc] 34)) i 42
  rw [sz1] at hx
  have H := Lib.hid (kn14 i.op)
  rw [hv] at H
  clear hv
  go_enter Tryz.func43, Tryz.ntmps43
  go_upto_region 1 with (fail)
  generalize (w.alloc (.cells #[.int .i64 W, .int .i64 R, .slice p n' pc, .slice q m qc] 34)).alloc (.cells #[.int .i64 i.op, .int .i64 i.dst, .int .i64 i.a, .int .i64 i.b, .int .i64 i.c, .int .u64 i.imm] 42) = w0 at k0 hx ⊢
  generalize w.heap.size + 1 = g at hx ⊢
  obtain ⟨y0, y1, y2, y3, y4, y5⟩ := hx
  have K0 := Lib.hid k0
  clear k0
  go_wp2_with (go_at_call 14; refine (H.out _).mono ?_; rintro e w' ⟨rfl, rfl⟩)
  go_ret
  exact ⟨rfl, K0.out⟩
set_option maxRecDepth 100000 in
set_option maxHeartbeats 4000000 in
theorem rins_any (W R : Int) (p q : Option Addr) (n' pc m qc : Nat) (i : I6) (w : World) (hv : opB i.op = true) (w1' : 1 ≤ W) (w2' : W ≤ 64) (im0 : 0 ≤ i.imm) (im1 : i.imm < 18446744073709551616) (E : Int) (hE1 : (defL i).any (fun r => !inB R r) = true → E = 18) (hE2 : (defL i).any (fun r => !inB R r) = false → i.op = 1 → maskI W < i.imm → E = 2) (hE3 : (defL i).any (fun r => !inB R r) = false → ¬ (i.op = 1 ∧ maskI W < i.imm) → E = if junkB i = true then 19 else 0) : Calls Tryz.prog 43 #[.agg #[.int .i64 W, .int .i64 R, .slice p n' pc, .slice q m qc], .agg #[.int .i64 i.op, .int .i64 i.dst, .int .i64 i.a, .int .i64 i.b, .int .i64 i.c, .int .u64 i.imm]] w (RE w E) := by
  have k0 := bk_alloc (bk_alloc (BK.refl w) (.cells #[.int .i64 W, .int .i64 R, .slice p n' pc, .slice q m qc] 34)) (.cells #[.int .i64 i.op, .int .i64 i.dst, .int .i64 i.a, .int .i64 i.b, .int .i64 i.c, .int .u64 i.imm] 42)
  have hx := x6_new (w.alloc (.cells #[.int .i64 W, .int .i64 R, .slice p n' pc, .slice q m qc] 34)) i 42
  rw [sz1] at hx
  have b4 := (b4_new w (.int .i64 W) (.int .i64 R) (.slice p n' pc) (.slice q m qc) 34).keep (bk_alloc (BK.refl _) (.cells #[.int .i64 i.op, .int .i64 i.dst, .int .i64 i.a, .int .i64 i.b, .int .i64 i.c, .int .u64 i.imm] 42))
  have KN := Lib.hid (kn14 i.op)
  rw [hv] at KN
  have hop : 0 ≤ i.op ∧ i.op ≤ 19 := by unfold opB at hv; simpa using hv
  have HOP := Lib.hid hop
  have SR := Lib.hid (src17 i.op)
  have U31 := Lib.hid (fun W => uses31 i W)
  have D28 := Lib.hid (fun W => def28 i W)
  have CU := Lib.hid (fun wc => cut67 W i.imm w1' w2' wc)
  have CV := Lib.hid (cutV_nat W i.imm w1' w2' im0 im1)
  have HE1 := Lib.hid hE1
  have HE2 := Lib.hid hE2
  have HE3 := Lib.hid hE3
  have HL := Lib.hid (defL_len i)
  have HUL := Lib.hid (usesL_le3 i)
  have HDV := Lib.hid (show dfB i.op = true → defV i = i.dst from fun h => by unfold defV; rw [if_pos h])
  have HD1 := Lib.hid (show dfB i.op = true → defL i = [i.dst] ++ usesL i from fun h => by unfold defL; rw [if_pos h])
  have HD0 := Lib.hid (show dfB i.op = false → defL i = usesL i from fun h => by unfold defL; rw [h]; rfl)
  clear hv hop im0 im1 hE1 hE2 hE3
  go_enter Tryz.func43, Tryz.ntmps43
  go_upto_region 1 with (fail)
  generalize (w.alloc (.cells #[.int .i64 W, .int .i64 R, .slice p n' pc, .slice q m qc] 34)).alloc (.cells #[.int .i64 i.op, .int .i64 i.dst, .int .i64 i.a, .int .i64 i.b, .int .i64 i.c, .int .u64 i.imm] 42) = w0 at k0 hx b4 ⊢
  generalize w.heap.size + 1 = g at hx ⊢
  have HX := Lib.hid (fun wc (hb : BK w0 wc) => hx.keep hb)
  have HB := Lib.hid (fun wc (hb : BK w0 wc) => b4.keep hb)
  have K0 := Lib.hid k0
  obtain ⟨y0, y1, y2, y3, y4, y5⟩ := hx
  clear k0 b4
  go_upto_region 4 with (first | (go_at_call 14; refine (KN.out _).mono ?_; rintro e w' ⟨rfl, rfl⟩) | (go_at_call 31; refine (U31.out w0).mono ?_; rintro e w1 ⟨p1, c1, rfl, hro, hb1⟩))
  have K1 := Lib.hid hb1
  obtain ⟨z0, z1, z2, z3, z4, z5⟩ := HX.out _ hb1
  have RU := Lib.hid hro
  clear hb1 hro y0 y1 y2 y3 y4 y5
  go_upto_if 21 with (go_at_call 28; refine (D28.out w1).mono ?_; rintro e w2 ⟨rfl, hb2⟩)
  have K2 := Lib.hid (bk_tr K1.out hb2)
  have RU2 := Lib.hid (RU.out.keep hb2)
  clear hb2 z0 z1 z2 z3 z4 z5 RU
  clear D28
  generalize hz : dfB i.op = z at HDV HD1 HD0 ⊢
  have HZ := Lib.hid hz
  clear hz
  go_cut [5] (fun s5 wx => ∃ p5 c5, s5 = .slice p5 (defL i).length c5 ∧ RO wx p5 c5 (defL i) ∧ BK w2 wx)
  case first =>
    cases z
    · have E0 := Lib.hid (HD0.out rfl)
      go_wp2_with fail
      go_meet
      exact ⟨p1, c1, by rw [E0.out], by rw [E0.out]; exact RU2.out, BK.refl _⟩
    · have E1 := Lib.hid (HD1.out rfl)
      have EV := Lib.hid (HDV.out rfl)
      go_wp2_with (at_builtin; go_must (refine wpI rfl (.tmp 23) (.tmp 24) rfl w2.heap.size (.slice (some ⟨w2.heap.size, 0, none⟩) 1 1) [defV i] rfl (own_one w2 w2.heap.size (Nat.le_refl _) (defV i)) p1 c1 (usesL i) rfl (RU2.out.keep (bk_alloc (BK.refl w2) (.cells #[.int .i64 (defV i)] 3))) ?c1 ?c2 ?_))
      case c1 => have := HUL.out; show 1 + (usesL i).length ≤ 1000000; omega
      intro p5 c5 w5 ho hg
      have HO := Lib.hid ho
      have HG := Lib.hid (bk_grownI (bk_alloc (BK.refl w2) (.cells #[.int .i64 (defV i)] 3)) (own_one w2 w2.heap.size (Nat.le_refl _) (defV i)) (Nat.le_refl _) hg)
      clear ho hg
      go_wp2_with fail
      go_meet
      refine ⟨p5, c5, by rw [E1.out, List.length_append]; rfl, ?_, HG.out⟩
      rw [E1.out, ← EV.out]
      exact RO.own HO.out
  case rest =>
  obtain ⟨p5, c5, rfl, hro5, hb5⟩ := hcut
  have RL := Lib.hid hro5
  have K3 := Lib.hid (bk_tr K2.out hb5)
  clear hro5 hb5 K2 RU2
  generalize hL : defL i = L at RL HL HE1 HE2 HE3 ⊢
  clear hL HD1 HD0
  go_wp2_with fail
  go_loopw [8] (fun j wr => ∃ k : Nat, k ≤ L.length ∧ j = .int .i64 k ∧ Hid (AllIn R (L.take k)) ∧ BK wc wr) (fun j _ => L.length - (intOf j).toNat)
  case atStart => exact ⟨0, Nat.zero_le _, rfl, Lib.hid (fun r hr => by simp at hr), BK.refl _⟩
  case round =>
    obtain ⟨k, hkk, rfl, hs, hkw⟩ := hrel
    have HK0 := Lib.hid hkw
    have HLL := HL.out
    by_cases hlt : k < L.length
    · obtain ⟨b, o, rfl, hc⟩ := (RL.out.keep hkw).get k hlt
      obtain ⟨b0, b1, b2, b3⟩ := HB.out _ (bk_tr K3.out hkw)
      have HY := Lib.hid (fun h => allin_snoc hlt hs.out h)
      have HN := Lib.hid (fun h => any_at (R := R) hlt h)
      clear hs hkw
      generalize L[k] = x at hc HY HN
      by_cases hx0 : x < 0
      · have hb0 : decide (x < 0) = true := by simpa using hx0
        have HQ := Lib.hid (HE1.out (HN.out (by unfold inB; apply decide_eq_false; omega)))
        go_wp2_with fail
        go_quiet (fail)
        go_wp2_with fail
        go_ret
        exact ⟨ret_int HQ.out.symm, bk_drewN (bk_tr K0.out (bk_tr K3.out HK0.out)) _⟩
      · have hb0 : decide (x < 0) = false := by simpa using hx0
        by_cases hx1 : R ≤ x
        · have hb1 : decide (R ≤ x) = true := by simpa using hx1
          have hb1' : decide (x ≥ R) = true := by simpa using hx1
          have HQ := Lib.hid (HE1.out (HN.out (by unfold inB; apply decide_eq_false; omega)))
          go_wp2_with fail
          go_quiet (fail)
          go_wp2_with fail
          go_ret
          exact ⟨ret_int HQ.out.symm, bk_drewN (bk_tr K0.out (bk_tr K3.out HK0.out)) _⟩
        · have hb1 : decide (R ≤ x) = false := by simpa using hx1
          have hb1' : decide (x ≥ R) = false := by simpa using hx1
          have HQ := Lib.hid (HY.out (by unfold inB; apply decide_eq_true; omega))
          go_wp2_with fail
          go_quiet (fail)
          go_wp2_with fail
          go_roundw
          case rel => exact ⟨k + 1, by omega, by go_num, Lib.hid HQ.out, bk_drewN HK0.out _⟩
          case measure => simp [intOf]; omega
    · obtain rfl : k = L.length := by omega
      have HA := Lib.hid (allin_any (by have := hs.out; rwa [List.take_length] at this))
      have HE2' := Lib.hid (HE2.out HA.out)
      have HE3' := Lib.hid (HE3.out HA.out)
      have K4 := Lib.hid (bk_tr K3.out HK0.out)
      clear hs hkw HE1 HE2 HE3 HA
      go_upto_region 12 with fail
      go_cut [58] (fun s58 wx => s58 = .bool (decide (i.op = 1 ∧ maskI W < i.imm)) ∧ BK w0 wx)
      case first =>
        by_cases h1 : i.op = 1
        · have H1 := Lib.hid h1
          clear h1
          obtain ⟨t0, t1, t2, t3, t4, t5⟩ := HX.out _ K4.out
          have K4d := Lib.hid (bk_drew K4.out)
          refine wp_region_held_drew (S := fun W' => BK w0 W') (by kernel_rfl) K4d.out (fun hHeld => ?_)
          generalize wr.drew = w3 at hHeld K4d ⊢
          refine wpAnyH_take (i := 0) (v := .pointer (some ⟨g, 0, none⟩)) rfl (by kernel_rfl) (by kernel_rfl) (by kernel_rfl) (fun _ _ _ h => h) (Or.inl ⟨by kernel_rfl, fun w hSw => by (go_simp)⟩) hHeld ?_
          try simp only [Act.put, List.setIfInBounds_toArray, List.set_cons_zero, List.set_cons_succ]
          refine wpAnyH_take (i := 1) (v := .int .i64 1) rfl (by kernel_rfl) (by kernel_rfl) (by kernel_rfl) (fun _ _ _ h => h) (Or.inl ⟨by kernel_rfl, fun w hSw => by (obtain ⟨t0, t1, t2, t3, t4, t5⟩ := HX.out _ hSw; obtain ⟨b0, b1, b2, b3⟩ := HB.out _ hSw; rw [H1.out] at t0; go_simp)⟩) hHeld ?_
          try simp only [Act.put, List.setIfInBounds_toArray, List.set_cons_zero, List.set_cons_succ]
          refine wpAnyH_take (i := 2) (v := .bool true) rfl (by kernel_rfl) (by kernel_rfl) (by kernel_rfl) (fun _ _ _ h => h) (Or.inl ⟨by kernel_rfl, fun w hSw => by (go_simp)⟩) hHeld ?_
          try simp only [Act.put, List.setIfInBounds_toArray, List.set_cons_zero, List.set_cons_succ]
          refine wpAnyH_take (i := 3) (v := .bool true) rfl (by kernel_rfl) (by kernel_rfl) (by kernel_rfl) (fun _ _ _ h => h) (Or.inl ⟨by kernel_rfl, fun w hSw => by (go_simp)⟩) hHeld ?_
          try simp only [Act.put, List.setIfInBounds_toArray, List.set_cons_zero, List.set_cons_succ]
          refine wpAnyH_take (i := 4) (v := .pointer (some ⟨w.heap.size, 0, none⟩)) rfl (by kernel_rfl) (by kernel_rfl) (by kernel_rfl) (fun _ _ _ h => h) (Or.inl ⟨by kernel_rfl, fun w hSw => by (go_simp)⟩) hHeld ?_
          try simp only [Act.put, List.setIfInBounds_toArray, List.set_cons_zero, List.set_cons_succ]
          refine wpAnyH_take (i := 5) (v := .int .i64 W) rfl (by kernel_rfl) (by kernel_rfl) (by kernel_rfl) (fun _ _ _ h => h) (Or.inl ⟨by kernel_rfl, fun w hSw => by (obtain ⟨t0, t1, t2, t3, t4, t5⟩ := HX.out _ hSw; obtain ⟨b0, b1, b2, b3⟩ := HB.out _ hSw; rw [H1.out] at t0; go_simp)⟩) hHeld ?_
          try simp only [Act.put, List.setIfInBounds_toArray, List.set_cons_zero, List.set_cons_succ]
          refine wpAnyH_take (i := 6) (v := .pointer (some ⟨g, 5, none⟩)) rfl (by kernel_rfl) (by kernel_rfl) (by kernel_rfl) (fun _ _ _ h => h) (Or.inl ⟨by kernel_rfl, fun w hSw => by (go_simp)⟩) hHeld ?_
          try simp only [Act.put, List.setIfInBounds_toArray, List.set_cons_zero, List.set_cons_succ]
          refine wpAnyH_take (i := 7) (v := .int .u64 i.imm) rfl (by kernel_rfl) (by kernel_rfl) (by kernel_rfl) (fun _ _ _ h => h) (Or.inl ⟨by kernel_rfl, fun w hSw => by (obtain ⟨t0, t1, t2, t3, t4, t5⟩ := HX.out _ hSw; obtain ⟨b0, b1, b2, b3⟩ := HB.out _ hSw; rw [H1.out] at t0; go_simp)⟩) hHeld ?_
          try simp only [Act.put, List.setIfInBounds_toArray, List.set_cons_zero, List.set_cons_succ]
          refine wpAnyH_take (i := 9) (v := .pointer (some ⟨g, 5, none⟩)) rfl (by kernel_rfl) (by kernel_rfl) (by kernel_rfl) (fun _ _ _ h => h) (Or.inl ⟨by kernel_rfl, fun w hSw => by (go_simp)⟩) hHeld ?_
          try simp only [Act.put, List.setIfInBounds_toArray, List.set_cons_zero, List.set_cons_succ]
          refine wpAnyH_take (i := 10) (v := .int .u64 i.imm) rfl (by kernel_rfl) (by kernel_rfl) (by kernel_rfl) (fun _ _ _ h => h) (Or.inl ⟨by kernel_rfl, fun w hSw => by (obtain ⟨t0, t1, t2, t3, t4, t5⟩ := HX.out _ hSw; obtain ⟨b0, b1, b2, b3⟩ := HB.out _ hSw; rw [H1.out] at t0; go_simp)⟩) hHeld ?_
          try simp only [Act.put, List.setIfInBounds_toArray, List.set_cons_zero, List.set_cons_succ]
          refine wpAnyH_ready (rs := [8]) (by kernel_rfl) (by simp) ?_
          refine AllReadyH.cons (o := _) rfl (fun K9 hK9 => ?_) AllReadyH.nil
          go_simp
          go_at_call 67
          refine (CU.out w3).mono ?_
          rintro e w4 ⟨rfl, rfl⟩
          refine hK9.out _ _ K4d.out (fun hHeld => ?_)
          clear hK9 K9
          try simp only [Act.put, List.setIfInBounds_toArray, List.set_cons_zero, List.set_cons_succ]
          refine wpAnyH_ready (rs := [11]) (by kernel_rfl) (by simp) ?_
          refine AllReadyH.cons (o := _) rfl (fun K9 hK9 => ?_) AllReadyH.nil
          go_simp
          refine hK9.out _ _ K4d.out (fun hHeld => ?_)
          clear hK9 K9
          try simp only [Act.put, List.setIfInBounds_toArray, List.set_cons_zero, List.set_cons_succ]
          refine wpAnyH_ready (rs := [12]) (by kernel_rfl) (by simp) ?_
          refine AllReadyH.cons (o := _) rfl (fun K9 hK9 => ?_) AllReadyH.nil
          go_simp
          refine hK9.out _ _ K4d.out (fun hHeld => ?_)
          clear hK9 K9
          try simp only [Act.put, List.setIfInBounds_toArray, List.set_cons_zero, List.set_cons_succ]
          refine wpAnyH_done (by kernel_rfl) ?_ _
          try simp only [Exit.then]
          clear hHeld
          go_wp2_with fail
          go_meet
          refine ⟨?_, K4d.out⟩
          rw [cut_bool H1.out CV.out]
        · have e1 : (i.op == 1) = false := by simpa using h1
          obtain ⟨y0, y1, y2, y3, y4, y5⟩ := HX.out _ K4.out
          go_quiet (fail)
          go_wp2_with fail
          go_meet
          exact ⟨by rw [decide_eq_false (fun h => h1 h.1)], bk_drewN K4.out _⟩
      case rest =>
      obtain ⟨rfl, hkc⟩ := hcut
      have K5 := Lib.hid hkc
      clear hkc
      by_cases hr : i.op = 1 ∧ maskI W < i.imm
      · have HQ := Lib.hid (HE2'.out hr.1 hr.2)
        rw [decide_eq_true hr]
        clear hr
        go_wp2_with fail
        go_ret
        exact ⟨ret_int HQ.out.symm, bk_tr K0.out K5.out⟩
      · have HE4 := Lib.hid (HE3'.out hr)
        rw [decide_eq_false hr]
        clear hr HE2' HE3'
        obtain ⟨y0, y1, y2, y3, y4, y5⟩ := HX.out _ K5.out
        go_upto_region 15 with (go_at_call 17; refine (SR.out _).mono ?_; rintro e w' ⟨rfl, rfl⟩)
        have HCL := Lib.hid (op_class HOP.out)
        rw [HZ.out] at HCL
        generalize hn : srcs i.op = n at HCL ⊢
        have HN := Lib.hid hn
        clear hn SR
        go_cut [105] (fun s105 wx => s105 = .bool (junkB i) ∧ BK w0 wx)
        case first =>
          rcases HCL.out with ⟨ho, rfl, rfl⟩ | ⟨ho, rfl, rfl⟩ | ⟨ho, rfl, rfl⟩ | ⟨ho, rfl, rfl⟩ | ⟨ho, rfl, rfl⟩
          · have eo : (i.op != 1) = true := by simp; omega
            have HO := Lib.hid ho
            clear ho HCL
            by_cases himm : i.imm = 0
            · have bimm : (i.imm != 0) = false := by simpa using himm
              have Himm := Lib.hid himm
              clear himm
              by_cases hdst : i.dst = 0
              · have bdst : (i.dst != 0) = false := by simpa using hdst
                have Hdst := Lib.hid hdst
                clear hdst
                by_cases ha : i.a = 0
                · have ba : (i.a != 0) = false := by simpa using ha
                  have Ha := Lib.hid ha
                  clear ha
                  by_cases hb : i.b = 0
                  · have bb : (i.b != 0) = false := by simpa using hb
                    have Hb := Lib.hid hb
                    clear hb
                    by_cases hc : i.c = 0
                    · have bc : (i.c != 0) = false := by simpa using hc
                      have Hc := Lib.hid hc
                      clear hc
                      go_wp2_with fail
                      go_meet
                      exact ⟨by rw [junk_f (by have := HO.out; have := HN.out; have := Himm.out; have := Hdst.out; have := Ha.out; have := Hb.out; have := Hc.out; omega)], K5.out⟩
                    · have bc : (i.c != 0) = true := by simpa using hc
                      have Hc := Lib.hid hc
                      clear hc
                      go_wp2_with fail
                      go_meet
                      exact ⟨by rw [junk_t (by have := HO.out; have := HN.out; have := Himm.out; have := Hdst.out; have := Ha.out; have := Hb.out; have := Hc.out; omega)], K5.out⟩
                  · have bb : (i.b != 0) = true := by simpa using hb
                    have Hb := Lib.hid hb
                    clear hb
                    go_wp2_with fail
                    go_meet
                    exact ⟨by rw [junk_t (by have := HO.out; have := HN.out; have := Himm.out; have := Hdst.out; have := Ha.out; have := Hb.out; omega)], K5.out⟩
                · have ba : (i.a != 0) = true := by simpa using ha
                  have Ha := Lib.hid ha
                  clear ha
                  go_wp2_with fail
                  go_meet
                  exact ⟨by rw [junk_t (by have := HO.out; have := HN.out; have := Himm.out; have := Hdst.out; have := Ha.out; omega)], K5.out⟩
              · have bdst : (i.dst != 0) = true := by simpa using hdst
                have Hdst := Lib.hid hdst
                clear hdst
                go_wp2_with fail
                go_meet
                exact ⟨by rw [junk_t (by have := HO.out; have := HN.out; have := Himm.out; have := Hdst.out; omega)], K5.out⟩
            · have bimm : (i.imm != 0) = true := by simpa using himm
              have Himm := Lib.hid himm
              clear himm
              go_wp2_with fail
              go_meet
              exact ⟨by rw [junk_t (by have := HO.out; have := HN.out; have := Himm.out; omega)], K5.out⟩
          · have eo : (i.op != 1) = false := by simp; omega
            have HO := Lib.hid ho
            clear ho HCL
            by_cases ha : i.a = 0
            · have ba : (i.a != 0) = false := by simpa using ha
              have Ha := Lib.hid ha
              clear ha
              by_cases hb : i.b = 0
              · have bb : (i.b != 0) = false := by simpa using hb
                have Hb := Lib.hid hb
                clear hb
                by_cases hc : i.c = 0
                · have bc : (i.c != 0) = false := by simpa using hc
                  have Hc := Lib.hid hc
                  clear hc
                  go_wp2_with fail
                  go_meet
                  exact ⟨by rw [junk_f (by have := HO.out; have := HN.out; have := Ha.out; have := Hb.out; have := Hc.out; omega)], K5.out⟩
                · have bc : (i.c != 0) = true := by simpa using hc
                  have Hc := Lib.hid hc
                  clear hc
                  go_wp2_with fail
                  go_meet
                  exact ⟨by rw [junk_t (by have := HO.out; have := HN.out; have := Ha.out; have := Hb.out; have := Hc.out; omega)], K5.out⟩
              · have bb : (i.b != 0) = true := by simpa using hb
                have Hb := Lib.hid hb
                clear hb
                go_wp2_with fail
                go_meet
                exact ⟨by rw [junk_t (by have := HO.out; have := HN.out; have := Ha.out; have := Hb.out; omega)], K5.out⟩
            · have ba : (i.a != 0) = true := by simpa using ha
              have Ha := Lib.hid ha
              clear ha
              go_wp2_with fail
              go_meet
              exact ⟨by rw [junk_t (by have := HO.out; have := HN.out; have := Ha.out; omega)], K5.out⟩
          · have eo : (i.op != 1) = true := by simp; omega
            have HO := Lib.hid ho
            clear ho HCL
            by_cases himm : i.imm = 0
            · have bimm : (i.imm != 0) = false := by simpa using himm
              have Himm := Lib.hid himm
              clear himm
              by_cases hb : i.b = 0
              · have bb : (i.b != 0) = false := by simpa using hb
                have Hb := Lib.hid hb
                clear hb
                by_cases hc : i.c = 0
                · have bc : (i.c != 0) = false := by simpa using hc
                  have Hc := Lib.hid hc
                  clear hc
                  go_wp2_with fail
                  go_meet
                  exact ⟨by rw [junk_f (by have := HO.out; have := HN.out; have := Himm.out; have := Hb.out; have := Hc.out; omega)], K5.out⟩
                · have bc : (i.c != 0) = true := by simpa using hc
                  have Hc := Lib.hid hc
                  clear hc
                  go_wp2_with fail
                  go_meet
                  exact ⟨by rw [junk_t (by have := HO.out; have := HN.out; have := Himm.out; have := Hb.out; have := Hc.out; omega)], K5.out⟩
              · have bb : (i.b != 0) = true := by simpa using hb
                have Hb := Lib.hid hb
                clear hb
                go_wp2_with fail
                go_meet
                exact ⟨by rw [junk_t (by have := HO.out; have := HN.out; have := Himm.out; have := Hb.out; omega)], K5.out⟩
            · have bimm : (i.imm != 0) = true := by simpa using himm
              have Himm := Lib.hid himm
              clear himm
              go_wp2_with fail
              go_meet
              exact ⟨by rw [junk_t (by have := HO.out; have := HN.out; have := Himm.out; omega)], K5.out⟩
          · have eo : (i.op != 1) = true := by simp; omega
            have HO := Lib.hid ho
            clear ho HCL
            by_cases himm : i.imm = 0
            · have bimm : (i.imm != 0) = false := by simpa using himm
              have Himm := Lib.hid himm
              clear himm
              by_cases hc : i.c = 0
              · have bc : (i.c != 0) = false := by simpa using hc
                have Hc := Lib.hid hc
                clear hc
                go_wp2_with fail
                go_meet
                exact ⟨by rw [junk_f (by have := HO.out; have := HN.out; have := Himm.out; have := Hc.out; omega)], K5.out⟩
              · have bc : (i.c != 0) = true := by simpa using hc
                have Hc := Lib.hid hc
                clear hc
                go_wp2_with fail
                go_meet
                exact ⟨by rw [junk_t (by have := HO.out; have := HN.out; have := Himm.out; have := Hc.out; omega)], K5.out⟩
            · have bimm : (i.imm != 0) = true := by simpa using himm
              have Himm := Lib.hid himm
              clear himm
              go_wp2_with fail
              go_meet
              exact ⟨by rw [junk_t (by have := HO.out; have := HN.out; have := Himm.out; omega)], K5.out⟩
          · have eo : (i.op != 1) = true := by simp; omega
            have HO := Lib.hid ho
            clear ho HCL
            by_cases himm : i.imm = 0
            · have bimm : (i.imm != 0) = false := by simpa using himm
              have Himm := Lib.hid himm
              clear himm
              go_wp2_with fail
              go_meet
              exact ⟨by rw [junk_f (by have := HO.out; have := HN.out; have := Himm.out; omega)], K5.out⟩
            · have bimm : (i.imm != 0) = true := by simpa using himm
              have Himm := Lib.hid himm
              clear himm
              go_wp2_with fail
              go_meet
              exact ⟨by rw [junk_t (by have := HO.out; have := HN.out; have := Himm.out; omega)], K5.out⟩
        case rest =>
        obtain ⟨rfl, hkd⟩ := hcut
        have K6 := Lib.hid hkd
        clear hkd
        cases hj : junkB i
        · have HQ := Lib.hid (show E = 0 from HE4.out.trans (by rw [hj]; rfl))
          go_wp2_with fail
          go_ret
          exact ⟨ret_int HQ.out.symm, bk_tr K0.out K6.out⟩
        · have HQ := Lib.hid (show E = 19 from HE4.out.trans (by rw [hj]; rfl))
          go_wp2_with fail
          go_ret
          exact ⟨ret_int HQ.out.symm, bk_tr K0.out K6.out⟩
end
/-! part XC -/
section
open Go.RowKit Go.Shelf
theorem rins43 (W R : Int) (p q : Option Addr) (n' pc m qc : Nat) (i : I6) (w : World) (w1' : 1 ≤ W) (w2' : W ≤ 64) (im : 0 ≤ i.imm ∧ i.imm < 18446744073709551616) : Calls Tryz.prog 43 #[.agg #[.int .i64 W, .int .i64 R, .slice p n' pc, .slice q m qc], .agg #[.int .i64 i.op, .int .i64 i.dst, .int .i64 i.a, .int .i64 i.b, .int .i64 i.c, .int .u64 i.imm]] w (RE w (insE (maskI W) R i)) := by
  cases ho : opB i.op
  · have : insE (maskI W) R i = 4 := by unfold insE; rw [if_pos ho]
    rw [this]
    exact rins_bad W R p q n' pc m qc i w ho
  · have h0 : insE (maskI W) R i = if regB R i = true then 18 else if i.op = 1 ∧ maskI W < i.imm then 2 else if junkB i = true then 19 else 0 := by unfold insE; rw [if_neg (by rw [ho]; simp)]
    rw [regB_defL] at h0
    refine rins_any W R p q n' pc m qc i w ho w1' w2' im.1 im.2 _ ?_ ?_ ?_
    · intro h; rw [h0, if_pos h]
    · intro h h1 h2; rw [h0, h, if_neg (by simp), if_pos ⟨h1, h2⟩]
    · intro h h1; rw [h0, h, if_neg (by simp), if_neg h1]
theorem dup_yes {l : List Int} {a b : Nat} (h : a < b) (hb : b < l.length) (e : l[b] = l[a]'(by omega)) : dupB l = true := by
  induction l generalizing a b with
  | nil => simp at hb
  | cons x t ih =>
    unfold dupB
    cases b with
    | zero => omega
    | succ b =>
      have hb' : b < t.length := by simpa using hb
      cases a with
      | zero =>
        have : hasB t x = true := by
          unfold hasB
          apply List.any_eq_true.2
          exact ⟨t[b], List.getElem_mem hb', by simpa using e⟩
        rw [this]; rfl
      | succ a => rw [ih (a := a) (b := b) (by omega) hb' (by simpa using e), Bool.or_true]
theorem dup_no : ∀ {l : List Int}, (∀ a b, (h : a < b) → (hb : b < l.length) → l[b] ≠ l[a]'(by omega)) → dupB l = false
  | [], _ => rfl
  | x :: t, h => by
    unfold dupB
    rw [dup_no (l := t) (fun a b hab hb => by have := h (a + 1) (b + 1) (by omega) (by simpa using hb); simpa using this), Bool.or_false]
    apply List.any_eq_false.2
    intro y hy
    obtain ⟨b, hb, rfl⟩ := List.getElem_of_mem hy
    have := h 0 (b + 1) (by omega) (by simpa using hb)
    simpa using this
/-- no two equal among the first n -/
def Ap (l : List Int) (n : Nat) : Prop := ∀ a b, (h : a < b) → (hb : b < l.length) → b < n → l[b] ≠ l[a]'(by omega)
/-- the number at n differs from the first k -/
def Df (l : List Int) (n k : Nat) : Prop := ∀ a, (h : a < n) → (hb : n < l.length) → a < k → l[n] ≠ l[a]'(by omega)
theorem ap_all {l : List Int} (h : Ap l l.length) : dupB l = false := dup_no fun a b hab hb => h a b hab hb hb
theorem ap_succ {l : List Int} {n : Nat} (h : Ap l n) (h2 : Df l n n) : Ap l (n + 1) := by
  intro a b hab hb hn
  by_cases e : b = n
  · subst e; exact h2 a hab hb hab
  · exact h a b hab hb (by omega)
theorem df_succ {l : List Int} {n k : Nat} (hk : k < n) (hn : n < l.length) (h : Df l n k) (e : ¬ l[n] = l[k]'(by omega)) : Df l n (k + 1) := by
  intro a ha hb hak
  by_cases e2 : a = k
  · subst e2; exact e
  · exact h a ha hb (by omega)
theorem cp_of {w w' : World} {k x k' x' : Int} (h1 : k' = k) (h2 : x' = x) (hb : BK w w') : CP w k x (.returned (.tuple #[.int .i64 k', .int .i64 x'])) w' := by
  subst h1 h2; exact ⟨rfl, hb⟩
set_option maxRecDepth 100000 in
set_option maxHeartbeats 4000000 in
theorem chk24_a (W R : Int) (p q : Option Addr) (pc qc : Nat) (ins : List I6) (out : List Int) (w : World) (hb : W < 1 ∨ 64 < W) : Calls Tryz.prog 24 #[.agg #[.int .i64 W, .int .i64 R, .slice p ins.length pc, .slice q out.length qc]] w (CP w (-1) 3) := by
  have b4 := b4_new w (.int .i64 W) (.int .i64 R) (.slice p ins.length pc) (.slice q out.length qc) 34
  have HK := Lib.hid (bk_alloc (BK.refl w) (.cells #[.int .i64 W, .int .i64 R, .slice p ins.length pc, .slice q out.length qc] 34))
  rcases hb with hb | hb
  all_goals
    go_enter Tryz.func24, Tryz.ntmps24
    go_upto_region 1 with (fail)
    generalize w.alloc (.cells #[.int .i64 W, .int .i64 R, .slice p ins.length pc, .slice q out.length qc] 34) = w0 at b4 HK ⊢
    obtain ⟨c0, c1, c2, c3⟩ := b4
    go_wp2_with fail
    go_ret2
    exact ⟨rfl, HK.out⟩
set_option maxRecDepth 100000 in
set_option maxHeartbeats 4000000 in
theorem chk24_b (W R : Int) (p q : Option Addr) (pc qc : Nat) (ins : List I6) (out : List Int) (w : World) (w1 : 1 ≤ W) (w2 : W ≤ 64) (hb : R < 1 ∨ 8 < R) : Calls Tryz.prog 24 #[.agg #[.int .i64 W, .int .i64 R, .slice p ins.length pc, .slice q out.length qc]] w (CP w (-1) 18) := by
  have b4 := b4_new w (.int .i64 W) (.int .i64 R) (.slice p ins.length pc) (.slice q out.length qc) 34
  have HK := Lib.hid (bk_alloc (BK.refl w) (.cells #[.int .i64 W, .int .i64 R, .slice p ins.length pc, .slice q out.length qc] 34))
  rcases hb with hb | hb
  all_goals
    go_enter Tryz.func24, Tryz.ntmps24
    go_upto_region 1 with (fail)
    generalize w.alloc (.cells #[.int .i64 W, .int .i64 R, .slice p ins.length pc, .slice q out.length qc] 34) = w0 at b4 HK ⊢
    obtain ⟨c0, c1, c2, c3⟩ := b4
    go_wp2_with fail
    go_ret2
    exact ⟨rfl, HK.out⟩
set_option maxRecDepth 100000 in
set_option maxHeartbeats 4000000 in
theorem chk24_c (W R : Int) (p q : Option Addr) (pc qc : Nat) (ins : List I6) (out : List Int) (w : World) (w1 : 1 ≤ W) (w2 : W ≤ 64) (r1 : 1 ≤ R) (r2 : R ≤ 8) (hb : 256 < ins.length) : Calls Tryz.prog 24 #[.agg #[.int .i64 W, .int .i64 R, .slice p ins.length pc, .slice q out.length qc]] w (CP w (-1) 7) := by
  have b4 := b4_new w (.int .i64 W) (.int .i64 R) (.slice p ins.length pc) (.slice q out.length qc) 34
  have HK := Lib.hid (bk_alloc (BK.refl w) (.cells #[.int .i64 W, .int .i64 R, .slice p ins.length pc, .slice q out.length qc] 34))
  go_enter Tryz.func24, Tryz.ntmps24
  go_upto_region 1 with (fail)
  generalize w.alloc (.cells #[.int .i64 W, .int .i64 R, .slice p ins.length pc, .slice q out.length qc] 34) = w0 at b4 HK ⊢
  obtain ⟨c0, c1, c2, c3⟩ := b4
  go_wp2_with fail
  go_ret2
  exact ⟨rfl, HK.out⟩
set_option maxRecDepth 100000 in
set_option maxHeartbeats 4000000 in
theorem chk24_d (W R : Int) (p q : Option Addr) (pc qc : Nat) (ins : List I6) (out : List Int) (w : World) (hi : RI w p pc ins) (ho : RO w q qc out) (w1 : 1 ≤ W) (w2 : W ≤ 64) (r1 : 1 ≤ R) (r2 : R ≤ 8) (hb : ins.length ≤ 256) (lo : out.length ≤ 9223372036854775807) (i64 : ∀ i ∈ ins, 0 ≤ i.imm ∧ i.imm < 18446744073709551616) :
    Calls Tryz.prog 24 #[.agg #[.int .i64 W, .int .i64 R, .slice p ins.length pc, .slice q out.length qc]] w (CP w (if firstE (maskI W) R ins = 0 then (if outE R out = 0 then 0 else -1) else (firstK (maskI W) R 0 ins : Int)) (if firstE (maskI W) R ins = 0 then outE R out else firstE (maskI W) R ins)) := by
  have b4 := b4_new w (.int .i64 W) (.int .i64 R) (.slice p ins.length pc) (.slice q out.length qc) 34
  have hk := bk_alloc (BK.refl w) (.cells #[.int .i64 W, .int .i64 R, .slice p ins.length pc, .slice q out.length qc] 34)
  have HI := Lib.hid hi
  have HO := Lib.hid ho
  have HM := Lib.hid i64
  have HZ := Lib.hid (show firstE (maskI W) R (ins.drop ins.length) = 0 by rw [List.drop_length]; rfl)
  have C43 := Lib.hid (fun (i : I6) (wc : World) (h : 0 ≤ i.imm ∧ i.imm < 18446744073709551616) => rins43 W R p q ins.length pc out.length qc i wc w1 w2 h)
  have O1 := Lib.hid (show out.any (fun r => !inB R r) = true → outE R out = 18 from fun h => by unfold outE; rw [if_pos h])
  have O2 := Lib.hid (show out.any (fun r => !inB R r) = false → dupB out = true → outE R out = 9 from fun h g => by unfold outE; rw [if_neg (by rw [h]; simp), if_pos g])
  have O3 := Lib.hid (show out.any (fun r => !inB R r) = false → dupB out = false → outE R out = 0 from fun h g => by unfold outE; rw [if_neg (by rw [h]; simp), if_neg (by rw [g]; simp)])
  have HY1 := Lib.hid (show firstE (maskI W) R ins = 0 → (if firstE (maskI W) R ins = 0 then outE R out else firstE (maskI W) R ins) = outE R out from fun h => if_pos h)
  have HK1 := Lib.hid (show firstE (maskI W) R ins = 0 → (if firstE (maskI W) R ins = 0 then (if outE R out = 0 then 0 else -1) else (firstK (maskI W) R 0 ins : Int)) = if outE R out = 0 then 0 else -1 from fun h => if_pos h)
  have HY2 := Lib.hid (show ¬ firstE (maskI W) R ins = 0 → (if firstE (maskI W) R ins = 0 then outE R out else firstE (maskI W) R ins) = firstE (maskI W) R ins from fun h => if_neg h)
  have HK2 := Lib.hid (show ¬ firstE (maskI W) R ins = 0 → (if firstE (maskI W) R ins = 0 then (if outE R out = 0 then 0 else -1) else (firstK (maskI W) R 0 ins : Int)) = (firstK (maskI W) R 0 ins : Int) from fun h => if_neg h)
  clear hi ho i64
  generalize maskI W = mk at HZ C43 HY1 HK1 HY2 HK2 ⊢
  generalize (if firstE mk R ins = 0 then outE R out else firstE mk R ins) = y at HY1 HY2 ⊢
  generalize (if firstE mk R ins = 0 then (if outE R out = 0 then 0 else -1) else (firstK mk R 0 ins : Int)) = yk at HK1 HK2 ⊢
  go_enter Tryz.func24, Tryz.ntmps24
  go_upto_region 1 with (fail)
  generalize w.alloc (.cells #[.int .i64 W, .int .i64 R, .slice p ins.length pc, .slice q out.length qc] 34) = w0 at b4 hk ⊢
  have H4 := Lib.hid (fun wc (hb : BK w0 wc) => b4.keep hb)
  have HK := Lib.hid hk
  obtain ⟨c0, c1, c2, c3⟩ := b4
  clear hk
  go_wp2_with fail
  clear c0 c1 c2 c3
  go_loopw [4, 5] (fun i _ wr => ∃ k : Nat, k ≤ ins.length ∧ i = .int .i64 k ∧ Hid (firstE mk R ins = firstE mk R (ins.drop k) ∧ firstK mk R 0 ins = firstK mk R k (ins.drop k)) ∧ BK w0 wr) (fun i _ _ => ins.length - (intOf i).toNat)
  case atStart => exact ⟨0, Nat.zero_le _, rfl, Lib.hid ⟨rfl, rfl⟩, BK.refl _⟩
  case round =>
    obtain ⟨k, hkk, rfl, hs, hkw⟩ := hrel
    have HK0 := Lib.hid hkw
    obtain ⟨c0, c1, c2, c3⟩ := H4.out _ hkw
    by_cases hlt : k < ins.length
    · have HS := Lib.hid (hs.out.1.trans (firstE_drop mk R ins k hlt))
      have HSK := Lib.hid (hs.out.2.trans (firstK_drop mk R ins k k hlt))
      obtain ⟨b, o, rfl, hc⟩ := (HI.out.keep (bk_tr HK.out hkw)).get k hlt
      have R43 := Lib.hid (fun wc => C43.out ins[k] wc (HM.out _ (List.getElem_mem hlt)))
      clear hs hkw
      generalize ins[k] = i at hc HS HSK R43
      obtain ⟨d0, d1, d2, d3, d4, d5⟩ := hc
      generalize insE mk R i = x at HS HSK R43
      go_upto_region 10 with fail
      go_still_tail 6, (by kernel_rfl)
      change wpList _ _ _ _ _ wr.drew
      have KD := Lib.hid (bk_drew HK0.out)
      generalize wr.drew = w2 at KD ⊢
      by_cases hx : x = 0
      · subst hx
        have H1 := Lib.hid (And.intro (HS.out.trans (if_pos rfl)) (HSK.out.trans (if_pos rfl)))
        go_wp2_with (go_at_call 43; refine (R43.out w2).mono ?_; rintro e w3 ⟨rfl, hb3⟩)
        have K3 := Lib.hid (bk_tr KD.out hb3)
        clear hb3
        go_roundw
        case rel => exact ⟨k + 1, by omega, by go_num, Lib.hid H1.out, K3.out⟩
        case measure => simp [intOf]; omega
      · have H1 := Lib.hid (HS.out.trans (if_neg hx))
        have H1K := Lib.hid (HSK.out.trans (if_neg hx))
        have hn : (x != 0) = true := by simpa using hx
        have HX := Lib.hid hx
        clear hx
        go_wp2_with (go_at_call 43; refine (R43.out w2).mono ?_; rintro e w3 ⟨rfl, hb3⟩)
        have K3 := Lib.hid (bk_tr KD.out hb3)
        clear hb3
        go_ret2
        exact cp_of ((HK2.out (by rw [H1.out]; exact HX.out)).trans (by rw [H1K.out])).symm ((HY2.out (by rw [H1.out]; exact HX.out)).trans H1.out).symm (bk_tr HK.out K3.out)
    · obtain rfl : k = ins.length := by omega
      have HF := Lib.hid (hs.out.1.trans HZ.out)
      have HP := Lib.hid (HY1.out HF.out)
      have HPK := Lib.hid (HK1.out HF.out)
      clear hs hkw HY1 HY2 HK1 HK2
      generalize outE R out = z at HP HPK O1 O2 O3
      go_wp2_with fail
      clear c0 c1 c2 c3
      have HL := lo
      go_loopw [6] (fun i wr => ∃ k : Nat, k ≤ out.length ∧ i = .int .i64 k ∧ Hid (AllIn R (out.take k)) ∧ BK w0 wr) (fun i _ => out.length - (intOf i).toNat)
      case atStart => exact ⟨0, Nat.zero_le _, rfl, Lib.hid (fun r hr => by simp at hr), HK0.out⟩
      case round =>
        obtain ⟨k, hkk, rfl, hs, hkw⟩ := hrel
        have HK0 := Lib.hid hkw
        obtain ⟨c0, c1, c2, c3⟩ := H4.out _ hkw
        by_cases hlt : k < out.length
        · obtain ⟨b, o, rfl, hc⟩ := (HO.out.keep (bk_tr HK.out hkw)).get k hlt
          have HA := Lib.hid (fun h => allin_snoc hlt hs.out h)
          have HN := Lib.hid (fun h => any_at (R := R) hlt h)
          clear hs hkw
          generalize out[k] = x at hc HA HN
          by_cases hx0 : x < 0
          · have hb0 : decide (x < 0) = true := by simpa using hx0
            have HQ := Lib.hid (O1.out (HN.out (by unfold inB; apply decide_eq_false; omega)))
            go_wp2_with fail
            go_quiet (fail)
            go_wp2_with fail
            go_ret2
            exact cp_of (HPK.out.trans (by rw [HQ.out]; rfl)).symm (HP.out.trans HQ.out).symm (bk_drewN (bk_tr HK.out HK0.out) _)
          · have hb0 : decide (x < 0) = false := by simpa using hx0
            by_cases hx1 : R ≤ x
            · have hb1 : decide (R ≤ x) = true := by simpa using hx1
              have HQ := Lib.hid (O1.out (HN.out (by unfold inB; apply decide_eq_false; omega)))
              go_wp2_with fail
              go_quiet (fail)
              go_wp2_with fail
              go_ret2
              exact cp_of (HPK.out.trans (by rw [HQ.out]; rfl)).symm (HP.out.trans HQ.out).symm (bk_drewN (bk_tr HK.out HK0.out) _)
            · have hb1 : decide (R ≤ x) = false := by simpa using hx1
              have HQ := Lib.hid (HA.out (by unfold inB; apply decide_eq_true; omega))
              go_wp2_with fail
              go_quiet (fail)
              go_wp2_with fail
              go_roundw
              case rel => exact ⟨k + 1, by omega, by go_num, Lib.hid HQ.out, bk_drewN HK0.out _⟩
              case measure => simp [intOf]; omega
        · obtain rfl : k = out.length := by omega
          have HA := Lib.hid (allin_any (by have := hs.out; rwa [List.take_length] at this))
          have O2' := Lib.hid (O2.out HA.out)
          have O3' := Lib.hid (O3.out HA.out)
          clear hs hkw O1 O2 O3
          go_wp2_with fail
          clear c0 c1 c2 c3
          go_loopw [7, 8] (fun i _ wr => ∃ n : Nat, n ≤ out.length ∧ i = .int .i64 n ∧ Hid (Ap out n) ∧ BK w0 wr) (fun i _ _ => out.length - (intOf i).toNat)
          case atStart => exact ⟨0, Nat.zero_le _, rfl, Lib.hid (fun a b _ _ h => by omega), HK0.out⟩
          case round =>
            obtain ⟨n, hnn, rfl, hs, hkw⟩ := hrel
            have HK0 := Lib.hid hkw
            obtain ⟨c0, c1, c2, c3⟩ := H4.out _ hkw
            by_cases hlt : n < out.length
            · have HAP := Lib.hid hs.out
              clear hs hkw
              go_wp2_with fail
              clear c0 c1 c2 c3
              go_loopw [8] (fun j wr => ∃ k : Nat, k ≤ n ∧ j = .int .i64 k ∧ Hid (Df out n k) ∧ BK w0 wr) (fun j _ => n - (intOf j).toNat)
              case atStart => exact ⟨0, Nat.zero_le _, rfl, Lib.hid (fun a _ _ h => by omega), HK0.out⟩
              case round =>
                obtain ⟨k, hkk, rfl, hs, hkw⟩ := hrel
                have HK0 := Lib.hid hkw
                obtain ⟨c0, c1, c2, c3⟩ := H4.out _ hkw
                by_cases hl2 : k < n
                · have hlk : k < out.length := by omega
                  obtain ⟨b, o, rfl, hc⟩ := (HO.out.keep (bk_tr HK.out hkw)).get n hlt
                  obtain ⟨b', o', he', hc'⟩ := (HO.out.keep (bk_tr HK.out hkw)).get k hlk
                  obtain ⟨rfl, rfl⟩ : b = b' ∧ o = o' := by simpa using he'
                  clear he'
                  have HD := Lib.hid (fun e => df_succ hl2 hlt hs.out e)
                  have HU := Lib.hid (fun e => O2'.out (dup_yes hl2 hlt e))
                  clear hs hkw
                  generalize out[n] = x at hc HD HU
                  generalize out[k] = x' at hc' HD HU
                  by_cases hxx : x = x'
                  · have HQ := Lib.hid (HU.out hxx)
                    subst hxx
                    go_wp2_with fail
                    go_quiet (fail)
                    go_wp2_with fail
                    go_ret2
                    exact cp_of (HPK.out.trans (by rw [HQ.out]; rfl)).symm (HP.out.trans HQ.out).symm (bk_drewN (bk_tr HK.out HK0.out) _)
                  · have hb0 : (x == x') = false := by simpa using hxx
                    have HQ := Lib.hid (HD.out hxx)
                    clear hxx
                    go_wp2_with fail
                    go_quiet (fail)
                    go_wp2_with fail
                    go_roundw
                    case rel => exact ⟨k + 1, by omega, by go_num, Lib.hid HQ.out, bk_drewN HK0.out _⟩
                    case measure => simp [intOf]; omega
                · obtain rfl : k = n := by omega
                  have HQ := Lib.hid (ap_succ HAP.out hs.out)
                  clear hs hkw
                  go_wp2_with fail
                  go_roundw
                  case rel => exact ⟨k + 1, by omega, by go_num, Lib.hid HQ.out, HK0.out⟩
                  case measure => simp [intOf]; omega
            · obtain rfl : n = out.length := by omega
              have HQ := Lib.hid (O3'.out (ap_all hs.out))
              clear hs hkw
              go_wp2_with fail
              go_ret2
              exact cp_of (HPK.out.trans (by rw [HQ.out]; rfl)).symm (HP.out.trans HQ.out).symm (bk_tr HK.out HK0.out)
theorem chk24 (W R : Int) (p q : Option Addr) (pc qc : Nat) (ins : List I6) (out : List Int) (w : World) (hi : RI w p pc ins) (ho : RO w q qc out) (lo : out.length ≤ 9223372036854775807) (i64 : ∀ i ∈ ins, 0 ≤ i.imm ∧ i.imm < 18446744073709551616) : Calls Tryz.prog 24 #[.agg #[.int .i64 W, .int .i64 R, .slice p ins.length pc, .slice q out.length qc]] w (CP w (chkK W R ins out) (chkE W R ins out)) := by
  unfold chkE chkK
  split
  · exact chk24_a W R p q pc qc ins out w ‹_›
  · split
    · exact chk24_b W R p q pc qc ins out w (by omega) (by omega) ‹_›
    · split
      · exact chk24_c W R p q pc qc ins out w (by omega) (by omega) (by omega) (by omega) ‹_›
      · exact chk24_d W R p q pc qc ins out w hi ho (by omega) (by omega) (by omega) (by omega) (by omega) lo i64
end
/-! part BP -/
section
/-- neither a blank nor a line feed -/
def Pl (x : List UInt8) : Prop := ∀ c ∈ x, c ≠ 32 ∧ c ≠ 10
theorem pl_dec (u : Nat) : Pl (wrn 10 u) := by
  intro c hc
  have h := wr_dec_mem u c hc
  constructor
  · rintro rfl; exact absurd h.1 (by decide)
  · rintro rfl; exact absurd h.1 (by decide)
theorem pl_itoa (n : Int) : Pl (Lib.itoa n) := by
  rw [itoa_wr]
  split
  · intro c hc
    rcases List.mem_cons.1 hc with rfl | hc
    · exact ⟨by decide, by decide⟩
    · exact pl_dec _ c hc
  · exact pl_dec _
theorem pl_reg (n : Int) : Pl (regT n) := by
  intro c hc
  rcases List.mem_cons.1 hc with rfl | hc
  · exact ⟨by decide, by decide⟩
  · exact pl_itoa n c hc
theorem nm_plain {op : Int} (h : opB op = true) : Pl (nameL op) ∧ nameL op ≠ outL ∧ (nameL op).length ≤ 4 ∧ ofL (nameL op) = some op.toNat := by
  have h0 : 0 ≤ op ∧ op ≤ 19 := by unfold opB at h; simpa using h
  have h2 : op.toNat < 20 := by omega
  have e : nameL op = nmT.getD op.toNat [] := by unfold nameL; rw [if_pos h]
  obtain ⟨g1, g2, -, g4⟩ := nm_no op.toNat h2
  rw [e]
  refine ⟨fun c hc => ?_, g2, g4, ofL_nm _ h2⟩
  have := List.all_eq_true.1 g1 c hc
  simpa using this
theorem lns_lines : ∀ (xs : List (List UInt8)), (∀ x ∈ xs, ∀ c ∈ x, c ≠ 10) → lns (xs.flatMap fun x => x ++ [10]) = xs
  | [], _ => rfl
  | x :: r, h => by
    have ih := lns_lines r (fun y hy => h y (by simp [hy]))
    rw [List.flatMap_cons, List.append_assoc]
    show lns (x ++ 10 :: (r.flatMap fun x => x ++ [10])) = _
    rw [lns_cut _ (h x (by simp)), ih]
theorem tl32_no10 : ∀ {xs : List (List UInt8)}, (∀ x ∈ xs, Pl x) → ∀ c ∈ tl32 xs, c ≠ 10
  | [], _, c, hc => by cases hc
  | x :: r, h, c, hc => by
    have hc : c ∈ (32 :: x ++ tl32 r) := hc
    rcases List.mem_append.1 hc with hc | hc
    · rcases List.mem_cons.1 hc with rfl | hc
      · decide
      · exact (h x (by simp) c hc).2
    · exact tl32_no10 (fun y hy => h y (by simp [hy])) c hc
theorem jn_no10 {xs : List (List UInt8)} (h : ∀ x ∈ xs, Pl x) : ∀ c ∈ jn xs, c ≠ 10 := by
  cases xs with
  | nil => intro c hc; cases hc
  | cons x r =>
    intro c hc
    have hc : c ∈ x ++ tl32 r := hc
    rcases List.mem_append.1 hc with hc | hc
    · exact (h x (by simp) c hc).2
    · exact tl32_no10 (fun y hy => h y (by simp [hy])) c hc
theorem sp_jn' {xs : List (List UInt8)} (hn : xs ≠ []) (h : ∀ x ∈ xs, Pl x) : sp (jn xs) = xs := sp_jn hn (fun x hx c hc => (h x hx c hc).1)
theorem jn_len : ∀ (xs : List (List UInt8)), (jn xs).length ≤ (tl32 xs).length
  | [] => Nat.le_refl _
  | x :: r => by show (x ++ tl32 r).length ≤ (32 :: x ++ tl32 r).length; simp
theorem tl32_len {m : Nat} : ∀ (xs : List (List UInt8)), (∀ x ∈ xs, x.length ≤ m) → (tl32 xs).length ≤ xs.length * (m + 1)
  | [], _ => by simp [tl32]
  | x :: r, h => by
    have ih := tl32_len r (fun y hy => h y (by simp [hy]))
    have hx := h x (by simp)
    show (32 :: x ++ tl32 r).length ≤ (r.length + 1) * (m + 1)
    rw [Nat.add_mul]
    simp only [List.length_append, List.length_cons]
    omega
theorem pl_ins {i : I6} (h : opB i.op = true) : ∀ x ∈ insW i, Pl x := by
  intro x hx
  unfold insW at hx
  rcases List.mem_cons.1 hx with rfl | hx
  · exact (nm_plain h).1
  · rcases List.mem_append.1 hx with hx | hx
    · rcases List.mem_append.1 hx with hx | hx
      · split at hx
        · rw [List.mem_singleton.1 hx]; exact pl_reg _
        · cases hx
      · split at hx
        · rw [List.mem_singleton.1 hx]; exact pl_dec _
        · cases hx
    · obtain ⟨r, -, rfl⟩ := List.mem_map.1 hx
      exact pl_reg r
theorem pl_out (out : List Int) : ∀ x ∈ outW out, Pl x := by
  intro x hx
  unfold outW at hx
  rcases List.mem_cons.1 hx with rfl | hx
  · intro c hc
    revert c
    decide
  · obtain ⟨r, -, rfl⟩ := List.mem_map.1 hx
    exact pl_reg r
theorem pl_head (W R : Int) : ∀ x ∈ headW W R, Pl x := by
  intro x hx
  unfold headW at hx
  simp only [List.mem_cons, List.not_mem_nil, or_false] at hx
  rcases hx with rfl | rfl | rfl | rfl
  · intro c hc; revert c; decide
  · exact pl_itoa _
  · intro c hc; revert c; decide
  · exact pl_itoa _
/-! words are read as what they say -/
theorem inB_in {R r : Int} (h : inB R r = true) : 0 ≤ r ∧ r < R := by unfold inB at h; simpa using h
theorem regO_reg {n : Int} (h : 0 ≤ n) (h2 : n < 9223372036854775808) : regO (regT n) = some n := by
  show (if (114 : UInt8) = 114 then whO (Lib.itoa n) else none) = some n
  rw [if_pos rfl, whO_itoa h h2]
theorem regsO_regs : ∀ {l : List Int}, (∀ n ∈ l, 0 ≤ n ∧ n < 9223372036854775808) → regsO (l.map regT) = some l
  | [], _ => rfl
  | n :: r, h => by
    have ih := regsO_regs (l := r) (fun m hm => h m (by simp [hm]))
    have hn := h n (by simp)
    show (match regO (regT n) with | none => none | some n => match regsO (r.map regT) with | none => none | some l => some (n :: l)) = _
    rw [regO_reg hn.1 hn.2, ih]
theorem headO_head {W R : Int} (h1 : 0 ≤ W) (h2 : W < 9223372036854775808) (h3 : 0 ≤ R) (h4 : R < 9223372036854775808) : headO (headW W R) = some (W, R) := by
  show (if widthL = widthL ∧ regsL = regsL then (match whO (Lib.itoa W) with | none => none | some x => match whO (Lib.itoa R) with | none => none | some y => some (x, y)) else none) = _
  rw [if_pos ⟨rfl, rfl⟩, whO_itoa h1 h2, whO_itoa h3 h4]
/-! a valid instruction -/
theorem insE_zero {m R : Int} {i : I6} (h : insE m R i = 0) : opB i.op = true ∧ regB R i = false ∧ ¬ (i.op = 1 ∧ m < i.imm) ∧ junkB i = false := by
  unfold insE at h
  split at h
  · omega
  · split at h
    · omega
    · split at h
      · omega
      · split at h
        · omega
        · rename_i a b c d
          exact ⟨by simpa using a, by simpa using b, c, by simpa using d⟩
theorem junk_parts {i : I6} (h : junkB i = false) : (i.op = 0 → i.dst = 0) ∧ (i.op ≠ 1 → i.imm = 0) ∧ (srcs i.op < 1 → i.a = 0) ∧ (srcs i.op < 2 → i.b = 0) ∧ (srcs i.op < 3 → i.c = 0) := by
  unfold junkB at h
  simp only [Bool.or_eq_false_iff, Bool.and_eq_false_iff, decide_eq_false_iff_not] at h
  obtain ⟨⟨⟨⟨h1, h2⟩, h3⟩, h4⟩, h5⟩ := h
  refine ⟨fun g => ?_, fun g => ?_, fun g => ?_, fun g => ?_, fun g => ?_⟩
  · rcases h1 with h | h <;> omega
  · rcases h2 with h | h <;> omega
  · rcases h3 with h | h <;> omega
  · rcases h4 with h | h <;> omega
  · rcases h5 with h | h <;> omega
theorem bp_uses {R : Int} {i : I6} (h : regB R i = false) : (dfB i.op = true → inB R i.dst = true) ∧ ∀ r ∈ usesL i, inB R r = true := by
  unfold regB at h
  simp only [Bool.or_eq_false_iff, Bool.and_eq_false_iff] at h
  refine ⟨fun g => ?_, fun r hr => ?_⟩
  · rcases h.1 with h | h
    · rw [g] at h; cases h
    · simpa using h
  · have := List.any_eq_false.1 h.2 r hr
    simpa using this
theorem insO_ins {m R : Int} {i : I6} (h : insE m R i = 0) (hR : R ≤ 8) (h64 : 0 ≤ i.imm ∧ i.imm < 18446744073709551616) : insO (insW i) = some i := by
  obtain ⟨h1, h2, -, h4⟩ := insE_zero h
  obtain ⟨-, -, -, ho⟩ := nm_plain h1
  obtain ⟨j0, j1, j2, j3, j4⟩ := junk_parts h4
  obtain ⟨u0, u1⟩ := bp_uses h2
  have hop : 0 ≤ i.op ∧ i.op ≤ 19 := by unfold opB at h1; simpa using h1
  have hc : ((i.op.toNat : Nat) : Int) = i.op := by omega
  unfold insW insO
  simp only [ho]
  by_cases e1 : i.op = 1
  · have en : i.op.toNat = 1 := by omega
    have hd : dfB i.op = true := by unfold dfB; simp; omega
    have hs : srcs i.op = 0 := by unfold srcs; rw [if_neg (by omega), if_pos (by omega)]
    have hu : usesL i = [] := by unfold usesL; rw [hs]; rfl
    have hr := inB_in (u0 hd)
    rw [en, if_pos hd, if_pos e1, hu]
    show (match regO (regT i.dst) with | none => none | some d => match decO (wrn 10 i.imm.toNat) with | none => none | some x => some (⟨1, d, 0, 0, 0, x⟩ : I6)) = some i
    rw [regO_reg hr.1 (by omega), decO_wr (by omega)]
    have ea := j2 (by omega)
    have eb := j3 (by omega)
    have ec := j4 (by omega)
    have ei : ((i.imm.toNat : Nat) : Int) = i.imm := by omega
    show some (⟨1, i.dst, 0, 0, 0, ((i.imm.toNat : Nat) : Int)⟩ : I6) = some i
    rw [ei]
    obtain ⟨op, dst, a, b, c, imm⟩ := i
    dsimp only at ea eb ec e1
    rw [ea, eb, ec, e1]
  · have en : ¬ i.op.toNat = 1 := by omega
    rw [if_neg en, if_neg e1, List.append_nil]
    have hm := j1 e1
    by_cases e0 : i.op = 0
    · have hd : dfB i.op = false := by unfold dfB; simp; omega
      have hs : srcs i.op = 0 := by unfold srcs; rw [if_neg (by omega), if_pos (by omega)]
      have hu : usesL i = [] := by unfold usesL; rw [hs]; rfl
      rw [hd, hu]
      have en0 : i.op.toNat = 0 := by omega
      rw [en0]
      show (if (([] : List Int).length : Int) = need ((0 : Nat) : Int) then some (⟨((0 : Nat) : Int), 0, 0, 0, 0, 0⟩ : I6) else none) = some i
      rw [if_pos (by decide)]
      have ea := j2 (by omega)
      have eb := j3 (by omega)
      have ec := j4 (by omega)
      have ed := j0 e0
      obtain ⟨op, dst, a, b, c, imm⟩ := i
      dsimp only at ea eb ec e0 ed hm
      rw [ea, eb, ec, e0, ed, hm]
      rfl
    · have hd : dfB i.op = true := by unfold dfB; simp; omega
      have hL : (if dfB i.op = true then [regT i.dst] else []) ++ (usesL i).map regT = (i.dst :: usesL i).map regT := by rw [if_pos hd]; rfl
      rw [hL, regsO_regs]
      · have hn : need i.op = srcs i.op + 1 := by unfold need; rw [if_neg e0]
        rw [hc, hn]
        have hs : srcs i.op = 1 ∨ srcs i.op = 2 ∨ srcs i.op = 3 := by
          unfold srcs; rw [if_neg (by omega), if_neg (by omega)]
          split
          · exact .inl rfl
          · split
            · exact .inr (.inr rfl)
            · exact .inr (.inl rfl)
        rcases hs with hs | hs | hs
        · have hu : usesL i = [i.a] := by unfold usesL; rw [hs]; rfl
          rw [hu, hs]
          show (if (2 : Int) = 1 + 1 then some (⟨i.op, i.dst, i.a, 0, 0, 0⟩ : I6) else none) = some i
          rw [if_pos (by decide)]
          have eb := j3 (by omega)
          have ec := j4 (by omega)
          obtain ⟨op, dst, a, b, c, imm⟩ := i
          dsimp only at eb ec hm ⊢
          rw [eb, ec, hm]
        · have hu : usesL i = [i.a, i.b] := by unfold usesL; rw [hs]; rfl
          rw [hu, hs]
          show (if (3 : Int) = 2 + 1 then some (⟨i.op, i.dst, i.a, i.b, 0, 0⟩ : I6) else none) = some i
          rw [if_pos (by decide)]
          have ec := j4 (by omega)
          obtain ⟨op, dst, a, b, c, imm⟩ := i
          dsimp only at ec hm ⊢
          rw [ec, hm]
        · have hu : usesL i = [i.a, i.b, i.c] := by unfold usesL; rw [hs]; rfl
          rw [hu, hs]
          show (if (4 : Int) = 3 + 1 then some (⟨i.op, i.dst, i.a, i.b, i.c, 0⟩ : I6) else none) = some i
          rw [if_pos (by decide)]
          obtain ⟨op, dst, a, b, c, imm⟩ := i
          dsimp only at hm ⊢
          rw [hm]
      · intro n hn
        rcases List.mem_cons.1 hn with rfl | hn
        · have := inB_in (u0 hd); omega
        · have := inB_in (u1 n hn); omega
/-! the lines -/
theorem body_lines {out : List Int} (ho : regsO (out.map regT) = some out) : ∀ (ins : List I6) (ln : Nat) (acc : List I6), (∀ i ∈ ins, insO (insW i) = some i ∧ sp (jn (insW i)) = insW i ∧ nameL i.op ≠ outL) → bodyP ln acc ((ins.map fun i => jn (insW i)) ++ [jn (outW out)]) = .ok (acc ++ ins) out
  | [], ln, acc, _ => by
    show bodyP ln acc [jn (outW out)] = _
    unfold bodyP
    rw [sp_jn' (by unfold outW; simp) (pl_out out)]
    show (if outL = outL then (match regsO (out.map regT) with | none => PR.bad (ln + 1) | some out => PR.ok acc out) else _) = _
    rw [if_pos rfl, ho, List.append_nil]
  | i :: r, ln, acc, h => by
    obtain ⟨h1, h2, h3⟩ := h i (by simp)
    have ih := body_lines ho r (ln + 1) (acc ++ [i]) (fun j hj => h j (by simp [hj]))
    show bodyP ln acc (jn (insW i) :: ((r.map fun i => jn (insW i)) ++ [jn (outW out)])) = _
    unfold bodyP
    rw [h2, if_neg (by show ¬ nameL i.op = outL; exact h3), h1]
    show bodyP (ln + 1) (acc ++ [i]) _ = _
    rw [ih]
    simp
theorem printP_lines (W R : Int) (ins : List I6) (out : List Int) : printP W R ins out = (jn (headW W R) :: ((ins.map fun i => jn (insW i)) ++ [jn (outW out)])).flatMap fun x => x ++ [10] := by
  unfold printP lineP
  rw [List.flatMap_cons, List.flatMap_append, List.flatMap_map]
  simp
/-! no more outputs than registers -/
theorem dup_filter (x : Int) : ∀ {l : List Int}, dupB l = false → l.length ≤ (l.filter fun y => decide (y ≠ x)).length + 1
  | [], _ => by simp
  | y :: t, h => by
    unfold dupB at h
    obtain ⟨h1, h2⟩ := Bool.or_eq_false_iff.1 h
    by_cases e : y = x
    · subst e
      have : t.filter (fun z => decide (z ≠ y)) = t := by
        apply List.filter_eq_self.2
        intro z hz
        have := List.any_eq_false.1 h1 z hz
        simpa using this
      rw [List.filter_cons_of_neg (by simp), this]
      simp
    · have ih := dup_filter x h2
      rw [List.filter_cons_of_pos (by simpa using e)]
      simp only [List.length_cons]
      omega
theorem dup_sub (p : Int → Bool) : ∀ {l : List Int}, dupB l = false → dupB (l.filter p) = false
  | [], _ => rfl
  | y :: t, h => by
    unfold dupB at h
    obtain ⟨h1, h2⟩ := Bool.or_eq_false_iff.1 h
    by_cases e : p y = true
    · rw [List.filter_cons_of_pos e]
      unfold dupB
      rw [dup_sub p h2, Bool.or_false]
      apply List.any_eq_false.2
      intro z hz
      exact List.any_eq_false.1 h1 z (List.mem_filter.1 hz).1
    · rw [List.filter_cons_of_neg e]; exact dup_sub p h2
theorem dup_short : ∀ (n : Nat) {l : List Int}, dupB l = false → (∀ x ∈ l, 0 ≤ x ∧ x < (n : Int)) → l.length ≤ n
  | 0, l, _, h2 => by
    cases l with
    | nil => simp
    | cons x t => have := h2 x (by simp); omega
  | n + 1, l, h, h2 => by
    have a := dup_filter (n : Int) h
    have b := dup_short n (dup_sub (fun y => decide (y ≠ (n : Int))) h) (by
      intro x hx
      obtain ⟨hx, hy⟩ := List.mem_filter.1 hx
      have := h2 x hx
      have hy : x ≠ (n : Int) := by simpa using hy
      omega)
    omega
/-! the whole -/
theorem bp_first {m R : Int} : ∀ {ins : List I6}, firstE m R ins = 0 → ∀ i ∈ ins, insE m R i = 0
  | [], _, i, hi => by cases hi
  | j :: t, h, i, hi => by
    unfold firstE at h
    split at h
    · rename_i hj
      rcases List.mem_cons.1 hi with rfl | hi
      · exact hj
      · exact bp_first h i hi
    · rename_i hj; exact absurd h hj
structure OkC (W R : Int) (ins : List I6) (out : List Int) : Prop where
  w1 : 1 ≤ W
  w2 : W ≤ 64
  r1 : 1 ≤ R
  r2 : R ≤ 8
  li : ins.length ≤ 256
  lo : out.length ≤ 8
  ie : ∀ i ∈ ins, insE (maskI W) R i = 0
  oi : ∀ x ∈ out, 0 ≤ x ∧ x < R
theorem chk_ok {W R : Int} {ins : List I6} {out : List Int} (h : chkE W R ins out = 0) : OkC W R ins out := by
  unfold chkE at h
  split at h
  · omega
  · split at h
    · omega
    · split at h
      · omega
      · split at h
        · rename_i a b c d
          unfold outE at h
          split at h
          · omega
          · split at h
            · omega
            · rename_i e f
              have ho : ∀ x ∈ out, 0 ≤ x ∧ x < R := by
                intro x hx
                have e : out.any (fun r => !inB R r) = false := by simpa using e
                have := List.any_eq_false.1 e x hx
                exact inB_in (by simpa using this)
              have hl := dup_short R.toNat (by simpa using f) (fun x hx => by have := ho x hx; omega)
              exact ⟨by omega, by omega, by omega, by omega, by omega, by omega, bp_first d, ho⟩
        · rename_i d; exact absurd h d
theorem bp_reglen {R n : Int} (h : inB R n = true) (hR : R ≤ 8) : (regT n).length ≤ 2 := by
  have hn := inB_in h
  unfold regT
  rw [itoa_wr, if_neg (by omega), wrn_lt (by omega)]
  simp
theorem bp_inslen {m R : Int} {i : I6} (h : insE m R i = 0) (hR : R ≤ 8) (h64 : 0 ≤ i.imm ∧ i.imm < 18446744073709551616) : (jn (insW i)).length ≤ 195 := by
  obtain ⟨h1, h2, -, -⟩ := insE_zero h
  obtain ⟨u0, u1⟩ := bp_uses h2
  have hop : 0 ≤ i.op ∧ i.op ≤ 19 := by unfold opB at h1; simpa using h1
  have hu : (usesL i).length ≤ 3 := by unfold usesL; rw [List.length_take]; simp only [List.length_cons, List.length_nil]; omega
  have h3 := jn_len (insW i)
  by_cases e1 : i.op = 1
  · have hd : dfB i.op = true := by unfold dfB; simp; omega
    have hs : srcs i.op = 0 := by unfold srcs; rw [if_neg (by omega), if_pos (by omega)]
    have hu : usesL i = [] := by unfold usesL; rw [hs]; rfl
    have he : insW i = [nameL i.op, regT i.dst, wrn 10 i.imm.toNat] := by
      unfold insW; rw [if_pos hd, if_pos e1, hu]; rfl
    have hx : ∀ x ∈ insW i, x.length ≤ 64 := by
      intro x hx
      rw [he] at hx
      simp only [List.mem_cons, List.not_mem_nil, or_false] at hx
      rcases hx with rfl | rfl | rfl
      · have := (nm_plain h1).2.2.1; omega
      · have := bp_reglen (u0 hd) hR; omega
      · exact wrn_len 10 _ (.inl rfl) (by omega)
    have h4 := tl32_len (insW i) hx
    have h5 : (insW i).length = 3 := by rw [he]; rfl
    rw [h5] at h4
    omega
  · have hx : ∀ x ∈ insW i, x.length ≤ 4 := by
      intro x hx
      unfold insW at hx
      rcases List.mem_cons.1 hx with rfl | hx
      · exact (nm_plain h1).2.2.1
      · rcases List.mem_append.1 hx with hx | hx
        · rcases List.mem_append.1 hx with hx | hx
          · split at hx
            · rename_i hd
              rw [List.mem_singleton.1 hx]; have := bp_reglen (u0 hd) hR; omega
            · cases hx
          · rw [if_neg e1] at hx; cases hx
        · obtain ⟨r, hr', rfl⟩ := List.mem_map.1 hx
          have := bp_reglen (u1 r hr') hR; omega
    have h4 := tl32_len (insW i) hx
    have h5 : (insW i).length ≤ 5 := by
      unfold insW
      rw [if_neg e1]
      simp only [List.length_cons, List.length_append, List.length_map, List.length_nil]
      have : (if dfB i.op = true then [regT i.dst] else []).length ≤ 1 := by split <;> simp
      omega
    have h6 : (insW i).length * (4 + 1) ≤ 5 * 5 := Nat.mul_le_mul h5 (Nat.le_refl _)
    omega
theorem flat_len {α : Type} (f : α → List UInt8) (m : Nat) : ∀ (l : List α), (∀ x ∈ l, (f x).length ≤ m) → (l.flatMap f).length ≤ l.length * m
  | [], _ => by simp
  | x :: r, h => by
    have ih := flat_len f m r (fun y hy => h y (by simp [hy]))
    have hx := h x (by simp)
    rw [List.flatMap_cons, List.length_append, List.length_cons, Nat.add_mul]
    omega
theorem printP_len {W R : Int} {ins : List I6} {out : List Int} (h : OkC W R ins out) (h64 : ∀ i ∈ ins, 0 ≤ i.imm ∧ i.imm < 18446744073709551616) : (printP W R ins out).length ≤ 65536 := by
  unfold printP
  simp only [List.length_append]
  have a : (lineP (headW W R)).length ≤ 100 := by
    unfold lineP
    have hx : ∀ x ∈ headW W R, x.length ≤ 21 := by
      intro x hx
      unfold headW at hx
      simp only [List.mem_cons, List.not_mem_nil, or_false] at hx
      have hw := h.w1; have hw2 := h.w2; have hr := h.r1; have hr2 := h.r2
      rcases hx with rfl | rfl | rfl | rfl
      · decide
      · exact Lib.itoa_length_le _ (by omega) (by omega)
      · decide
      · exact Lib.itoa_length_le _ (by omega) (by omega)
    have h4 := tl32_len (headW W R) hx
    have h3 := jn_len (headW W R)
    have h5 : (headW W R).length = 4 := rfl
    rw [h5] at h4
    simp only [List.length_append, List.length_cons, List.length_nil]
    omega
  have b : (ins.flatMap fun i => lineP (insW i)).length ≤ ins.length * 196 := by
    apply flat_len
    intro i hi
    have := bp_inslen (h.ie i hi) h.r2 (h64 i hi)
    unfold lineP
    simp only [List.length_append, List.length_cons, List.length_nil]
    omega
  have c : (lineP (outW out)).length ≤ 100 := by
    unfold lineP
    have hx : ∀ x ∈ outW out, x.length ≤ 3 := by
      intro x hx
      unfold outW at hx
      rcases List.mem_cons.1 hx with rfl | hx
      · decide
      · obtain ⟨r, hr, rfl⟩ := List.mem_map.1 hx
        have := bp_reglen (R := R) (n := r) (by have := h.oi r hr; unfold inB; simpa using this) h.r2
        omega
    have h4 := tl32_len (outW out) hx
    have h3 := jn_len (outW out)
    have h5 : (outW out).length = out.length + 1 := by unfold outW; simp
    have h6 := h.lo
    rw [h5] at h4
    simp only [List.length_append, List.length_cons, List.length_nil]
    omega
  have d := h.li
  omega
theorem progP_print {W R : Int} {ins : List I6} {out : List Int} (h : OkC W R ins out) (h64 : ∀ i ∈ ins, 0 ≤ i.imm ∧ i.imm < 18446744073709551616) : progP (lns (printP W R ins out)) = .ok W R ins out := by
  have hw := h.w1; have hw2 := h.w2; have hr := h.r1; have hr2 := h.r2
  rw [printP_lines, lns_lines]
  · have hb := body_lines (out := out) (regsO_regs (fun n hn => by have := h.oi n hn; omega)) ins 1 [] (fun i hi => by
      have h0 := insE_zero (h.ie i hi)
      exact ⟨insO_ins (h.ie i hi) h.r2 (h64 i hi), sp_jn' (by unfold insW; simp) (pl_ins h0.1), (nm_plain h0.1).2.1⟩)
    have hh : headO (sp (jn (headW W R))) = some (W, R) := by
      rw [sp_jn' (by unfold headW; simp) (pl_head W R), headO_head (by omega) (by omega) (by omega) (by omega)]
    unfold progP
    dsimp only
    rw [hh]
    dsimp only
    rw [hb]
    rfl
  · intro x hx
    rcases List.mem_cons.1 hx with rfl | hx
    · exact jn_no10 (pl_head W R)
    · rcases List.mem_append.1 hx with hx | hx
      · obtain ⟨i, hi, rfl⟩ := List.mem_map.1 hx
        exact jn_no10 (pl_ins (insE_zero (h.ie i hi)).1)
      · rw [List.mem_singleton.1 hx]
        exact jn_no10 (pl_out out)
/-- a valid program's text is read as the program -/
theorem parse_print {W R : Int} {ins : List I6} {out : List Int} (h : chkE W R ins out = 0) (h64 : ∀ i ∈ ins, 0 ≤ i.imm ∧ i.imm < 18446744073709551616) : parseT (printP W R ins out) = ⟨W, R, ins, out, 0, 0⟩ := by
  have ok := chk_ok h
  have hl := printP_len ok h64
  unfold parseT
  rw [if_neg (by omega)]
  unfold parseP
  rw [progP_print ok h64]
  show (if chkE W R ins out = 0 then (⟨W, R, ins, out, 0, 0⟩ : RC) else _) = _
  rw [if_pos h]
end
/-! part YH -/
section
theorem regO_in {x : List UInt8} {n : Int} (h : regO x = some n) : 0 ≤ n ∧ n < 9223372036854775808 ∧ regT n = x := by
  unfold regO at h
  split at h
  · cases h
  · rename_i c r
    split at h
    · rename_i hc
      obtain ⟨h0, h1, h2⟩ := whO_in h
      exact ⟨h0, h1, by unfold regT; rw [h2, hc]⟩
    · cases h
theorem regsO_in : ∀ {l : List (List UInt8)} {A : List Int}, regsO l = some A → (∀ n ∈ A, 0 ≤ n ∧ n < 9223372036854775808) ∧ A.map regT = l
  | [], A, h => by cases h; exact ⟨fun n hn => (by cases hn), rfl⟩
  | x :: l, A, h => by
    unfold regsO at h
    split at h
    · cases h
    · rename_i m hm
      split at h
      · cases h
      · rename_i B hB
        cases h
        obtain ⟨i1, i2⟩ := regsO_in hB
        obtain ⟨r0, r1, r2⟩ := regO_in hm
        refine ⟨fun n hn => ?_, by rw [List.map_cons, r2, i2]⟩
        rcases List.mem_cons.1 hn with rfl | hn
        · exact ⟨r0, r1⟩
        · exact i1 n hn
theorem getD_in {A : List Int} (h : ∀ n ∈ A, 0 ≤ n ∧ n < 9223372036854775808) (j : Nat) : In64 (A.getD j 0) := by
  rw [List.getD_eq_getElem?_getD]
  cases e : A[j]? with
  | none => exact ⟨by decide, by decide⟩
  | some v =>
    have := h v (List.mem_of_getElem? e)
    show In64 v
    unfold In64; omega
theorem in0 : In64 0 := ⟨by decide, by decide⟩
theorem insO_W {t : List (List UInt8)} {i : I6} (h : insO t = some i) : insW i = t ∧ I64 i := by
  match t with
  | [] => cases h
  | nm :: rest =>
    unfold insO at h
    cases ho : ofL nm with
    | none => simp only [ho] at h; cases h
    | some op =>
      simp only [ho] at h
      obtain ⟨h20, hnm⟩ := ofL_lt ho
      have hop : opB (op : Int) = true := by unfold opB; simp; omega
      have hname : nameL (op : Int) = nm := by unfold nameL; rw [if_pos hop]; simpa using hnm
      by_cases h1 : op = 1
      · rw [if_pos h1] at h
        split at h
        · rename_i a b
          cases ha : regO a with
          | none => simp only [ha] at h; cases h
          | some d =>
            simp only [ha] at h
            cases hb : decO b with
            | none => simp only [hb] at h; cases h
            | some x =>
              simp only [hb] at h
              cases h
              obtain ⟨d0, d1, d2⟩ := regO_in ha
              obtain ⟨x0, x1⟩ := decO_in hb
              refine ⟨?_, ⟨⟨by show -9223372036854775808 ≤ d; omega, by show d ≤ 9223372036854775807; omega⟩, in0, in0, in0, by show (0 : Int) ≤ (x : Int); omega, by show (x : Int) < 18446744073709551616; omega⟩⟩
              have e : insW ⟨1, d, 0, 0, 0, (x : Int)⟩ = [nameL 1, regT d, wrn 10 ((x : Int)).toNat] := rfl
              rw [e, d2, show ((x : Int)).toNat = x by omega, x1, show nameL 1 = nm from by rw [← hname, h1]; rfl]
        · cases h
      · rw [if_neg h1] at h
        cases hr : regsO rest with
        | none => simp only [hr] at h; cases h
        | some l =>
          simp only [hr] at h
          obtain ⟨hin, hmap⟩ := regsO_in hr
          split at h
          · rename_i hl
            cases h
            refine ⟨?_, ⟨getD_in hin 0, getD_in hin 1, getD_in hin 2, getD_in hin 3, Int.le_refl _, by show (0 : Int) < 18446744073709551616; decide⟩⟩
            have hne : ¬ (op : Int) = 1 := by omega
            unfold insW
            dsimp only
            rw [hname, if_neg hne, List.append_nil]
            unfold need at hl
            have hu : ∀ j : I6, usesL j = [j.a, j.b, j.c].take (srcs j.op).toNat := fun _ => rfl
            rw [hu]
            dsimp only
            rcases op_class (op := (op : Int)) (by omega) with ⟨e0, ed, es⟩ | ⟨e0, ed, es⟩ | ⟨e0, ed, es⟩ | ⟨e0, ed, es⟩ | ⟨e0, ed, es⟩
            · rw [ed, es]
              rw [es, if_pos e0] at hl
              have : l = [] := List.eq_nil_of_length_eq_zero (by omega)
              subst this
              rw [← hmap]; rfl
            · omega
            · rw [ed, es]
              rw [es, if_neg (by omega)] at hl
              match l, (show l.length = 2 by omega) with
              | [a0, a1], _ => rw [← hmap]; rfl
            · rw [ed, es]
              rw [es, if_neg (by omega)] at hl
              match l, (show l.length = 3 by omega) with
              | [a0, a1, a2], _ => rw [← hmap]; rfl
            · rw [ed, es]
              rw [es, if_neg (by omega)] at hl
              match l, (show l.length = 4 by omega) with
              | [a0, a1, a2, a3], _ => rw [← hmap]; rfl
          · cases h
/-! the whole text -/
theorem jn_of {x : List UInt8} {t : List (List UInt8)} (h : sp x = t) : jn t = x := by rw [← h]; exact jn_sp x
theorem headO_W {t : List (List UInt8)} {W R : Int} (h : headO t = some (W, R)) : headW W R = t ∧ (0 ≤ W ∧ W < 9223372036854775808) ∧ (0 ≤ R ∧ R < 9223372036854775808) := by
  unfold headO at h
  split at h
  · rename_i a b c d
    split at h
    · rename_i hac
      obtain ⟨ha, hc⟩ := hac
      cases hb : whO b with
      | none => simp only [hb] at h; cases h
      | some x =>
        simp only [hb] at h
        cases hd : whO d with
        | none => simp only [hd] at h; cases h
        | some y =>
          simp only [hd] at h
          cases h
          obtain ⟨b0, b1, b2⟩ := whO_in hb
          obtain ⟨d0, d1, d2⟩ := whO_in hd
          exact ⟨by unfold headW; rw [b2, d2, ha, hc], ⟨b0, b1⟩, ⟨d0, d1⟩⟩
    · cases h
  · cases h
theorem body_W : ∀ (r : List (List UInt8)) (ln : Nat) (acc ins : List I6) (out : List Int), bodyP ln acc r = .ok ins out → (∀ i ∈ acc, I64 i) → ∃ ins', ins = acc ++ ins' ∧ r = (ins'.map fun i => jn (insW i)) ++ [jn (outW out)] ∧ (∀ i ∈ ins, I64 i) ∧ (∀ n ∈ out, 0 ≤ n ∧ n < 9223372036854775808)
  | [], ln, acc, ins, out, h, _ => by cases h
  | x :: r, ln, acc, ins, out, h, hacc => by
    unfold bodyP at h
    split at h
    · rename_i hx
      cases ho : regsO (sp x).tail with
      | none => simp only [ho] at h; cases h
      | some o =>
        simp only [ho] at h
        cases r with
        | cons y r => cases h
        | nil =>
          cases h
          obtain ⟨o1, o2⟩ := regsO_in ho
          refine ⟨[], by simp, ?_, hacc, o1⟩
          have hs : sp x = outW out := by
            have hn := sp_ne x
            cases hsx : sp x with
            | nil => exact absurd hsx hn
            | cons a t =>
              rw [hsx] at hx o2
              unfold outW
              rw [o2]
              rw [show a = outL from hx]; rfl
          show [x] = [jn (outW out)]
          rw [jn_of hs]
    · cases hi : insO (sp x) with
      | none => simp only [hi] at h; cases h
      | some i =>
        simp only [hi] at h
        obtain ⟨w1, w2⟩ := insO_W hi
        obtain ⟨ins', e1, e2, e3, e4⟩ := body_W r (ln + 1) (acc ++ [i]) ins out h (fun j hj => by
          rcases List.mem_append.1 hj with hj | hj
          · exact hacc j hj
          · rw [List.mem_singleton.1 hj]; exact w2)
        refine ⟨i :: ins', by rw [e1]; simp, ?_, e3, e4⟩
        rw [e2, List.map_cons, jn_of w1.symm]
        rfl
theorem lns_text : ∀ (l : List UInt8), ((lns l).flatMap fun x => x ++ [10]) = l ∨ ((lns l).flatMap fun x => x ++ [10]) = l ++ [10]
  | [] => .inl rfl
  | c :: r => by
    have ih := lns_text r
    unfold lns
    split
    · rename_i hc
      rw [List.flatMap_cons]
      subst hc
      rcases ih with h | h
      · left; rw [h]; rfl
      · right; rw [h]; rfl
    · cases hl : lns r with
      | nil =>
        rw [hl] at ih
        right
        have : r = [] := by
          cases r with
          | nil => rfl
          | cons d r =>
            rcases ih with h | h
            · cases h
            · cases h
        subst this
        rfl
      | cons x xs =>
        rw [hl] at ih
        simp only [List.flatMap_cons] at ih ⊢
        rcases ih with h | h
        · left; rw [← h]; rfl
        · right; show c :: ((x ++ [10]) ++ xs.flatMap fun x => x ++ [10]) = c :: (r ++ [10]); rw [h]
theorem prog_W {l : List UInt8} {W R : Int} {ins : List I6} {out : List Int} (h : progP (lns l) = .ok W R ins out) : (printP W R ins out = l ∨ printP W R ins out = l ++ [10]) ∧ In64 W ∧ In64 R ∧ (∀ i ∈ ins, I64 i) ∧ (∀ n ∈ out, In64 n) := by
  have ht := lns_text l
  unfold progP at h
  split at h
  · cases h
  · rename_i x r hx
    cases hh : headO (sp x) with
    | none => simp only [hh] at h; cases h
    | some WR =>
      obtain ⟨W', R'⟩ := WR
      simp only [hh] at h
      cases hb : bodyP 1 [] r with
      | bad n => simp only [hb] at h; cases h
      | ok ins' out' =>
        simp only [hb] at h
        cases h
        obtain ⟨a1, a2, a3⟩ := headO_W hh
        obtain ⟨is, e1, e2, e3, e4⟩ := body_W r 1 [] _ _ hb (fun i hi => by cases hi)
        rw [List.nil_append] at e1
        subst e1
        refine ⟨?_, ⟨by omega, by omega⟩, ⟨by omega, by omega⟩, e3, fun n hn => by have := e4 n hn; unfold In64; omega⟩
        rw [hx] at ht
        rw [printP_lines, jn_of a1.symm, ← e2]
        exact ht
end
/-! part YA -/
section
open Go.RowKit Go.Shelf
def optU (o : Option Nat) : Value := match o with
  | some x => .tuple #[.int .u64 (x : Int), .bool true]
  | none => .tuple #[.int .u64 0, .bool false]
def optI (o : Option Int) : Value := match o with
  | some x => .tuple #[.int .i64 x, .bool true]
  | none => .tuple #[.int .i64 0, .bool false]
theorem ret_val {a b : Value} (h : a = b) : Ending.returned a = .returned b := by rw [h]
set_option maxHeartbeats 1000000 in
theorem dec82 (s : ByteArray) (hs : s.size ≤ 1000000) (w : World) : Calls Tryz.prog 82 #[.string s] w fun e w' => e = .returned (optU (decO (bl s))) ∧ BK w w' := by
  have P := Lib.hid (rparse17 s hs w)
  have HD := Lib.hid (dec_parseS (bl s))
  cases hp : parseS (bl s) with
  | ok x =>
    have hx : x < 18446744073709551616 := by
      unfold parseS at hp
      split at hp
      · exact (numE_ok hp).2.2
      · exact (numE_ok hp).2.2
    have HX := Lib.hid (fun W => rdec10 x hx W)
    rw [hp] at P
    have HD2 : Hid (decO (bl s) = if wrn 10 x = bl s then some x else none) := Lib.hid (by rw [HD.out, hp])
    have P2 : Hid (Calls Tryz.prog 100 #[.string s] w fun e w' => e = .returned (.tuple #[.int .u64 (x : Int), .int .i64 0]) ∧ BK w w') := Lib.hid P.out
    clear hp P HD hx
    by_cases he : wrn 10 x = bl s
    · have H1 := Lib.hid (HD2.out.trans (if_pos he))
      have e1 : (⟨(wrn 10 x).toArray⟩ : ByteArray) = s := bl_inj he
      rw [e1] at HX
      clear he e1 HD2
      go_enter Tryz.func82, Tryz.ntmps82
      go_wp2_with (first | (go_at_call 100; refine P2.out.mono ?_; rintro e w1 ⟨rfl, h1⟩) | (go_at_call 73; refine (HX.out w1).mono ?_; rintro e w2 ⟨rfl, h2⟩))
      go_ret2
      exact ⟨ret_val (by rw [H1.out]; rfl), bk_tr h1 h2⟩
    · have H1 := Lib.hid (HD2.out.trans (if_neg he))
      have e1 : ¬ (⟨(wrn 10 x).toArray⟩ : ByteArray) = s := fun h => he (by rw [← h])
      have e2 : ((⟨(wrn 10 x).toArray⟩ : ByteArray).toList == s.toList) = false := by
        rw [bl_eqL, ByteArray.toList_eq]
        exact decide_eq_false he
      generalize (⟨(wrn 10 x).toArray⟩ : ByteArray) = t at HX e1 e2
      clear he HD2
      go_enter Tryz.func82, Tryz.ntmps82
      go_wp2_with (first | (go_at_call 100; refine P2.out.mono ?_; rintro e w1 ⟨rfl, h1⟩) | (go_at_call 73; refine (HX.out w1).mono ?_; rintro e w2 ⟨rfl, h2⟩))
      go_ret2
      exact ⟨ret_val (by rw [H1.out]; rfl), bk_tr h1 h2⟩
  | «syntax» =>
    rw [hp] at P
    have H1 : Hid (decO (bl s) = none) := Lib.hid (by rw [HD.out, hp])
    have P2 : Hid (Calls Tryz.prog 100 #[.string s] w fun e w' => e = .returned (resU .syntax) ∧ BK w w') := Lib.hid P.out
    unfold resU at P2
    clear hp P HD
    go_enter Tryz.func82, Tryz.ntmps82
    go_wp2_with (go_at_call 100; refine P2.out.mono ?_; rintro e w1 ⟨rfl, h1⟩)
    go_ret2
    exact ⟨ret_val (by rw [H1.out]; rfl), h1⟩
  | range =>
    rw [hp] at P
    have H1 : Hid (decO (bl s) = none) := Lib.hid (by rw [HD.out, hp])
    have P2 : Hid (Calls Tryz.prog 100 #[.string s] w fun e w' => e = .returned (resU .range) ∧ BK w w') := Lib.hid P.out
    unfold resU at P2
    clear hp P HD
    go_enter Tryz.func82, Tryz.ntmps82
    go_wp2_with (go_at_call 100; refine P2.out.mono ?_; rintro e w1 ⟨rfl, h1⟩)
    go_ret2
    exact ⟨ret_val (by rw [H1.out]; rfl), h1⟩
set_option maxHeartbeats 1000000 in
theorem whole81 (s : ByteArray) (hs : s.size ≤ 1000000) (w : World) : Calls Tryz.prog 81 #[.string s] w fun e w' => e = .returned (optI (whO (bl s))) ∧ BK w w' := by
  have P := Lib.hid (dec82 s hs w)
  have HD := Lib.hid (whO_dec (bl s))
  cases hp : decO (bl s) with
  | some x =>
    have hx := (decO_in hp).1
    rw [hp] at P
    have HD2 : Hid (whO (bl s) = if x < 9223372036854775808 then some (x : Int) else none) := Lib.hid (by rw [HD.out, hp])
    have P2 : Hid (Calls Tryz.prog 82 #[.string s] w fun e w' => e = .returned (.tuple #[.int .u64 (x : Int), .bool true]) ∧ BK w w') := Lib.hid P.out
    clear hp P HD
    by_cases he : x < 9223372036854775808
    · have H1 := Lib.hid (HD2.out.trans (if_pos he))
      have hb : decide ((x : Int) ≥ 9223372036854775808) = false := by simp; omega
      have hb' : decide ((9223372036854775808 : Int) ≤ (x : Int)) = false := by simp; omega
      go_enter Tryz.func81, Tryz.ntmps81
      go_wp2_with (go_at_call 82; refine P2.out.mono ?_; rintro e w1 ⟨rfl, h1⟩)
      go_ret2
      exact ⟨ret_val (by rw [H1.out]; rfl), h1⟩
    · have H1 := Lib.hid (HD2.out.trans (if_neg he))
      have hb : decide ((x : Int) ≥ 9223372036854775808) = true := by simp; omega
      have hb' : decide ((9223372036854775808 : Int) ≤ (x : Int)) = true := by simp; omega
      go_enter Tryz.func81, Tryz.ntmps81
      go_wp2_with (go_at_call 82; refine P2.out.mono ?_; rintro e w1 ⟨rfl, h1⟩)
      go_ret2
      exact ⟨ret_val (by rw [H1.out]; rfl), h1⟩
  | none =>
    rw [hp] at P
    have H1 : Hid (whO (bl s) = none) := Lib.hid (by rw [HD.out, hp])
    have P2 : Hid (Calls Tryz.prog 82 #[.string s] w fun e w' => e = .returned (.tuple #[.int .u64 0, .bool false]) ∧ BK w w') := Lib.hid P.out
    clear hp P HD
    go_enter Tryz.func81, Tryz.ntmps81
    go_wp2_with (go_at_call 82; refine P2.out.mono ?_; rintro e w1 ⟨rfl, h1⟩)
    go_ret2
    exact ⟨ret_val (by rw [H1.out]; rfl), h1⟩
end
/-! part YB -/
section
open Go.RowKit Go.Shelf
/-- k bytes are looked at, the pieces P stand, the next begins at a -/
def SpI (c : UInt8) (l : List UInt8) (P : List (List UInt8)) (a k : Nat) : Prop :=
  (k ≤ l.length ∧ a ≤ k ∧ spc c l = P ++ spc c (l.drop a) ∧ ∀ j, a ≤ j → j < k → l.getD j 0 ≠ c) ∨ (k = l.length + 1 ∧ a = k ∧ P = spc c l)
theorem spi_skip {c : UInt8} {l : List UInt8} {P : List (List UInt8)} {a k : Nat} (h : SpI c l P a k) (hk : k < l.length) (hc : l.getD k 0 ≠ c) : SpI c l P a (k + 1) := by
  rcases h with ⟨h1, h2, h3, h4⟩ | ⟨h1, _, _⟩
  · refine .inl ⟨by omega, by omega, h3, fun j ha hj => ?_⟩
    by_cases e : j = k
    · subst e; exact hc
    · exact h4 j ha (by omega)
  · omega
theorem seg_no {c : UInt8} {l : List UInt8} {a k : Nat} (hk : k ≤ l.length) (h4 : ∀ j, a ≤ j → j < k → l.getD j 0 ≠ c) : ∀ d ∈ (l.drop a).take (k - a), d ≠ c := by
  intro d hd
  obtain ⟨j, hj, rfl⟩ := List.getElem_of_mem hd
  have hj' : j < k - a ∧ j < l.length - a := by simp at hj; omega
  have := h4 (a + j) (by omega) (by omega)
  rw [List.getD_eq_getElem?_getD, List.getElem?_eq_getElem (by omega)] at this
  simpa using this
theorem spi_cut {c : UInt8} {l : List UInt8} {P : List (List UInt8)} {a k : Nat} (h : SpI c l P a k) (hk : k < l.length) (hc : l.getD k 0 = c) : SpI c l (P ++ [(l.drop a).take (k - a)]) (k + 1) (k + 1) := by
  rcases h with ⟨h1, h2, h3, h4⟩ | ⟨h1, _, _⟩
  · refine .inl ⟨by omega, Nat.le_refl _, ?_, fun j ha hj => by omega⟩
    have e : l.drop a = (l.drop a).take (k - a) ++ c :: l.drop (k + 1) := by
      have e1 : (l.drop a).drop (k - a) = l.drop k := by rw [List.drop_drop]; congr 1; omega
      have e2 : l.drop k = c :: l.drop (k + 1) := by
        rw [List.drop_eq_getElem_cons hk]
        rw [List.getD_eq_getElem?_getD, List.getElem?_eq_getElem hk] at hc
        rw [show l[k] = c from by simpa using hc]
      rw [← e2, ← e1, List.take_append_drop]
    rw [h3]
    have : spc c (l.drop a) = (l.drop a).take (k - a) :: spc c (l.drop (k + 1)) := by
      have h5 := spc_cut (c := c) (l.drop (k + 1)) (seg_no (by omega) h4)
      rw [← e] at h5
      exact h5
    rw [this]
    simp
  · omega
theorem spi_end {c : UInt8} {l : List UInt8} {P : List (List UInt8)} {a : Nat} (h : SpI c l P a l.length) : SpI c l (P ++ [(l.drop a).take (l.length - a)]) (l.length + 1) (l.length + 1) := by
  rcases h with ⟨h1, h2, h3, h4⟩ | ⟨h1, _, _⟩
  · refine .inr ⟨rfl, rfl, ?_⟩
    have h5 := spc_plain (c := c) (seg_no (l := l) (a := a) (Nat.le_refl _) h4)
    have e : (l.drop a).take (l.length - a) = l.drop a := List.take_of_length_le (by simp)
    rw [e] at h5 ⊢
    rw [h3, h5]
  · omega
theorem spi_len {c : UInt8} {l : List UInt8} {P : List (List UInt8)} {a k : Nat} (h : SpI c l P a k) : P.length ≤ l.length + 1 ∧ a ≤ k ∧ k ≤ l.length + 1 := by
  have hl := spc_len c l
  rcases h with ⟨h1, h2, h3, h4⟩ | ⟨h1, h2, h3⟩
  · rw [h3, List.length_append] at hl; omega
  · subst h3; omega
theorem sB_ext (s : ByteArray) (a k : Nat) : sB (((bl s).drop a).take (k - a)) = s.extract a k := by
  apply bl_inj
  rw [bl_extract]
  rfl
set_option maxRecDepth 100000 in
set_option maxHeartbeats 2000000 in
theorem split57 (s : ByteArray) (hs : s.size ≤ 1000000) (c : UInt8) (w : World) : Calls Tryz.prog 57 #[.string s, .int .u8 (c.toNat : Int)] w (FP w (spc c (bl s))) := by
  have HZ := Lib.hid (show SpI c (bl s) [] 0 0 from .inl ⟨Nat.zero_le _, Nat.le_refl _, by simp, fun j _ h => by omega⟩)
  have HSZ := Lib.hid (show (bl s).length = s.size from rfl)
  go_enter Tryz.func57, Tryz.ntmps57
  go_wp2_with fail
  go_loopw [5, 6, 7] (fun v a i wr => ∃ (P : List (List UInt8)) (p' : Option Addr) (c' : Nat) (at' k : Nat), v = .slice p' P.length c' ∧ a = .int .i64 (at' : Int) ∧ i = .int .i64 (k : Int) ∧ wr.ownsRow w.heap.size 9 1 (.slice p' P.length c') P.length (strs P) ∧ Hid (SpI c (bl s) P at' k) ∧ BK w wr) (fun _ _ i _ => s.size + 1 - (intOf i).toNat)
  case atStart => exact ⟨[], none, 0, 0, 0, rfl, rfl, rfl, World.ownsRow_nil _ _ _ _, Lib.hid HZ.out, BK.refl _⟩
  case round =>
    obtain ⟨P, p', c', a, k, rfl, rfl, rfl, hown, hsp, hkw⟩ := hrel
    have HO := Lib.hid hown
    have HK := Lib.hid hkw
    obtain ⟨hl0, hl1, hl2⟩ := spi_len hsp.out
    rw [HSZ.out] at hl0 hl2
    clear hown hkw
    by_cases hle : k ≤ s.size
    · by_cases hlt : k < s.size
      · have hx := idx9 hlt wr
        obtain ⟨d, hd⟩ : ∃ d, d = (bl s).getD k 0 := ⟨_, rfl⟩
        rw [← hd] at hx
        have ek : ((k : Int) == (s.size : Int)) = false := by simp; omega
        by_cases hc : d = c
        · have HN := Lib.hid (spi_cut hsp.out hlt (hd.symm.trans hc))
          have eb : ((d.toNat : Int) == (c.toNat : Int)) = true := by rw [hc]; simp
          clear hd hsp
          go_wp2_with (at_builtin; go_must (refine wpA rfl (.tmp 25) (.tmp 30) rfl w.heap.size (.slice p' P.length c') P rfl (own_below HO.out (bk_alloc (BK.refl wr) _)) (.slice (some ⟨wr.heap.size, 0, none⟩) 1 1) [((bl s).drop a).take (k - a)] rfl ?c1 ?c2 ?c3 ?_))
          case c1 => rw [← sB_ext]; exact src_alloc1 wr _
          case c2 => show P.length + 1 ≤ 2000000; omega
          case c3 => have := bk_size HK.out; rw [sz1]; omega
          intro p5 c5 w5 ho hg
          have HO5 := Lib.hid ho
          have HK5 := Lib.hid (bk_grown (bk_tr HK.out (bk_alloc (BK.refl wr) _)) (own_below HO.out (bk_alloc (BK.refl wr) (.cells #[.string (s.extract a k)] 9))) (Nat.le_refl _) hg)
          clear ho hg
          go_wp2_with fail
          go_roundw
          case rel => exact ⟨P ++ [((bl s).drop a).take (k - a)], p5, c5, k + 1, k + 1, by rw [List.length_append]; rfl, by go_num, by go_num, by rw [List.length_append]; exact HO5.out, Lib.hid HN.out, HK5.out⟩
          case measure => simp [intOf]; omega
        · have HN := Lib.hid (spi_skip hsp.out hlt (by rw [← hd]; exact hc))
          have eb : ((d.toNat : Int) == (c.toNat : Int)) = false := by
            simp only [beq_eq_false_iff_ne, ne_eq]
            intro h; exact hc (UInt8.toNat_inj.1 (by omega))
          clear hd hsp hc
          go_wp2_with fail
          go_roundw
          case rel => exact ⟨P, p', c', a, k + 1, rfl, rfl, by go_num, HO.out, Lib.hid HN.out, HK.out⟩
          case measure => simp [intOf]; omega
      · obtain rfl : k = s.size := by omega
        have HN := Lib.hid (spi_end (by rw [HSZ.out]; exact hsp.out))
        rw [HSZ.out] at HN
        have ek : ((s.size : Int) == (s.size : Int)) = true := by simp
        clear hsp
        go_wp2_with (at_builtin; go_must (refine wpA rfl (.tmp 25) (.tmp 30) rfl w.heap.size (.slice p' P.length c') P rfl (own_below HO.out (bk_alloc (BK.refl wr) _)) (.slice (some ⟨wr.heap.size, 0, none⟩) 1 1) [((bl s).drop a).take (s.size - a)] rfl ?c1 ?c2 ?c3 ?_))
        case c1 => rw [← sB_ext]; exact src_alloc1 wr _
        case c2 => show P.length + 1 ≤ 2000000; omega
        case c3 => have := bk_size HK.out; rw [sz1]; omega
        intro p5 c5 w5 ho hg
        have HO5 := Lib.hid ho
        have HK5 := Lib.hid (bk_grown (bk_tr HK.out (bk_alloc (BK.refl wr) _)) (own_below HO.out (bk_alloc (BK.refl wr) (.cells #[.string (s.extract a s.size)] 9))) (Nat.le_refl _) hg)
        clear ho hg
        go_wp2_with fail
        go_roundw
        case rel => exact ⟨P ++ [((bl s).drop a).take (s.size - a)], p5, c5, s.size + 1, s.size + 1, by rw [List.length_append]; rfl, by go_num, by go_num, by rw [List.length_append]; exact HO5.out, Lib.hid HN.out, HK5.out⟩
        case measure => simp [intOf]
    · have hk1 : k = s.size + 1 := by omega
      have HE : Hid (P = spc c (bl s)) := Lib.hid (by
        rcases hsp.out with ⟨h1, _⟩ | ⟨_, _, h3⟩
        · rw [HSZ.out] at h1; omega
        · exact h3)
      have hnl : decide ((k : Int) ≤ (s.size : Int)) = false := by simp; omega
      clear hk1
      clear hsp
      go_wp2_with fail
      go_ret
      exact ⟨p', c', by rw [← HE.out]; rfl, by rw [← HE.out]; exact HO.out, HK.out⟩
end
/-! part YC2 -/
section
open Go.RowKit Go.Shelf
/-- the texts behind a slice -/
structure RL (w : World) (p : Option Addr) (c : Nat) (l : List (List UInt8)) : Prop where
  nl : p = none → c = 0
  le : l.length ≤ c
  get : ∀ k (h : k < l.length), ∃ b o, p = some ⟨b, o, none⟩ ∧ w.cell? ⟨b, o + k, none⟩ = some (.string (sB l[k]))
theorem RL.keep {w w' : World} {p : Option Addr} {c : Nat} {l : List (List UInt8)} (h : RL w p c l) (hb : BK w w') : RL w' p c l :=
  ⟨h.nl, h.le, fun k hk => by obtain ⟨b, o, h1, h2⟩ := h.get k hk; exact ⟨b, o, h1, (hb.bl.cell (p := ⟨b, o + k, none⟩) (World.block_lt_of_cell? w _ h2)).trans h2⟩⟩
theorem RL.own {w : World} {B e n c : Nat} {p : Option Addr} {l : List (List UInt8)} (h : w.ownsRow B e 1 (.slice p n c) l.length (strs l)) : RL w p c l := by
  rcases h.2 with ⟨hv, h0⟩ | ⟨g, cap, cur, hv, hb, hg, h1, h2, h3, h4⟩
  · simp only [Value.slice.injEq] at hv
    obtain ⟨rfl, rfl, rfl⟩ := hv
    exact ⟨fun _ => rfl, by omega, fun k hk => by omega⟩
  · have hc := fun k (hk : k < l.length) => World.ownsRow.cellAt (g := g) (cap := cap) (by rw [hv] at h; exact h) k (by simpa using hk)
    simp only [Value.slice.injEq] at hv
    obtain ⟨rfl, rfl, rfl⟩ := hv
    refine ⟨fun h => (by cases h), by omega, fun k hk => ⟨g, 0, rfl, ?_⟩⟩
    rw [Nat.zero_add, hc k hk]
    simp only [strs, List.getElem?_map, List.getElem?_eq_getElem hk, Option.map_some]
theorem rgO_snoc : ∀ {l : List (List UInt8)} {x : List UInt8} {A : List Int} {n : Int}, regsO l = some A → regO x = some n → regsO (l ++ [x]) = some (A ++ [n])
  | [], x, A, n, h, hx => by
    cases h
    show (match regO x with | none => none | some n => match regsO [] with | none => none | some l => some (n :: l)) = _
    rw [hx]; rfl
  | y :: l, x, A, n, h, hx => by
    unfold regsO at h
    split at h
    · cases h
    · rename_i m hm
      split at h
      · cases h
      · rename_i B hB
        cases h
        have ih := rgO_snoc hB hx
        show (match regO y with | none => none | some n => match regsO (l ++ [x]) with | none => none | some l => some (n :: l)) = _
        rw [hm, ih]; rfl
theorem rgO_at {l : List (List UInt8)} {k : Nat} (hk : k < l.length) (h : regO l[k] = none) : regsO l = none := by
  induction l generalizing k with
  | nil => simp at hk
  | cons y l ih =>
    unfold regsO
    cases k with
    | zero => rw [show regO y = none from h]
    | succ k =>
      rw [ih (by simpa using hk) (by simpa using h)]
      cases regO y <;> rfl
def GP (w : World) (o : Option (List Int)) (e : Ending) (w' : World) : Prop := match o with
  | none => e = .returned (.tuple #[.slice none 0 0, .bool false]) ∧ BK w w'
  | some l => ∃ p c, e = .returned (.tuple #[.slice p l.length c, .bool true]) ∧ w'.ownsRow w.heap.size 3 1 (.slice p l.length c) l.length (ints l) ∧ BK w w'
theorem gp_no {w w' : World} {o : Option (List Int)} (h : o = none) (hb : BK w w') : GP w o (.returned (.tuple #[.slice none 0 0, .bool false])) w' := by subst h; exact ⟨rfl, hb⟩
set_option maxRecDepth 100000 in
set_option maxHeartbeats 2000000 in
theorem regs60 (l : List (List UInt8)) (p : Option Addr) (c : Nat) (w : World) (hl : RL w p c l) (hm : ∀ x ∈ l, x.length ≤ 100000) (hn : l.length ≤ 100001) : Calls Tryz.prog 60 #[.slice p l.length c] w (GP w (regsO l)) := by
  have HL := Lib.hid hl
  have HM := Lib.hid hm
  have HE := Lib.hid (show regsO (l.take l.length) = regsO l by rw [List.take_length])
  have HAT := Lib.hid (fun k (hk : k < l.length) (h : regO l[k] = none) => rgO_at hk h)
  generalize regsO l = o at HE HAT ⊢
  clear hl hm
  go_enter Tryz.func60, Tryz.ntmps60
  go_wp2_with fail
  go_loopw [4, 5] (fun v i wr => ∃ (k : Nat) (A : List Int) (p' : Option Addr) (c' : Nat), k ≤ l.length ∧ A.length = k ∧ v = .slice p' A.length c' ∧ i = .int .i64 (k : Int) ∧ wr.ownsRow w.heap.size 3 1 (.slice p' A.length c') A.length (ints A) ∧ Hid (regsO (l.take k) = some A) ∧ BK w wr) (fun _ i _ => l.length - (intOf i).toNat)
  case atStart => exact ⟨0, [], none, 0, Nat.zero_le _, rfl, rfl, rfl, World.ownsRow_nil _ _ _ _, Lib.hid rfl, BK.refl _⟩
  case round =>
    obtain ⟨k, A, p', c', hkk, hAk, rfl, rfl, hown, hre, hkw⟩ := hrel
    have HO := Lib.hid hown
    have HK := Lib.hid hkw
    have HAK := Lib.hid hAk
    clear hAk
    by_cases hlt : k < l.length
    · obtain ⟨b, o', rfl, hc⟩ := (HL.out.keep hkw).get k hlt
      have HX := Lib.hid (HM.out l[k] (List.getElem_mem hlt))
      have HNO := Lib.hid (HAT.out k hlt)
      have HYE := Lib.hid (fun n (h : regO l[k] = some n) => (by rw [List.take_succ_eq_append_getElem hlt]; exact rgO_snoc hre.out h : regsO (l.take (k + 1)) = some (A ++ [n])))
      clear hown hkw hre
      generalize l[k] = x at hc HX HNO HYE
      have HB := Lib.hid (show bl (sB x) = x from rfl)
      have HSZ := Lib.hid (show (sB x).size = x.length from rfl)
      generalize sB x = s at hc HB HSZ
      rcases str_cases s with h0 | ⟨hpos, hne⟩
      · have HQ := Lib.hid (HNO.out (by rw [← HB.out, h0]; rfl))
        subst h0
        go_wp2_with fail
        go_ret2
        exact gp_no HQ.out HK.out
      · obtain ⟨d, hd⟩ : ∃ d, d = s[0]'hpos := ⟨_, rfl⟩
        have hxd : bl s = d :: bl (s.extract 1 s.size) := by rw [bl_cons hpos, hd]; rfl
        have HXD := Lib.hid (HB.out.symm.trans hxd)
        clear hxd
        by_cases hdd : d = 114
        · have eq : (((s[0]'hpos).toNat : Nat) : Int) = 114 := by rw [← hd, hdd]; rfl
          have W81 := Lib.hid (fun W => whole81 (s.extract 1 s.size) (by have := HX.out; have := ext_size s 1 s.size; have := HSZ.out; omega) W)
          have HRO := Lib.hid (show regO x = whO (bl (s.extract 1 s.size)) from by rw [HXD.out, hdd]; show (if (114 : UInt8) = 114 then whO _ else none) = _; rw [if_pos rfl])
          clear hdd hd
          cases hw : whO (bl (s.extract 1 s.size)) with
          | none =>
            have HQ := Lib.hid (HNO.out (HRO.out.trans hw))
            rw [hw] at W81
            have W82 : Hid (∀ W, Calls Tryz.prog 81 #[.string (s.extract 1 s.size)] W fun e w' => e = .returned (.tuple #[.int .i64 0, .bool false]) ∧ BK W w') := Lib.hid W81.out
            clear hw W81
            go_wp2_with (go_at_call 81; refine (W82.out _).mono ?_; rintro e w2 ⟨rfl, h2⟩)
            go_ret2
            exact gp_no HQ.out (bk_tr HK.out h2)
          | some n =>
            have HQ := Lib.hid (HYE.out n (HRO.out.trans hw))
            rw [hw] at W81
            have W82 : Hid (∀ W, Calls Tryz.prog 81 #[.string (s.extract 1 s.size)] W fun e w' => e = .returned (.tuple #[.int .i64 n, .bool true]) ∧ BK W w') := Lib.hid W81.out
            clear hw W81
            go_upto_region 10 with (go_at_call 81; refine (W82.out _).mono ?_; rintro e w2 ⟨rfl, h2⟩)
            have K2 := Lib.hid (bk_tr HK.out h2)
            have O2 := Lib.hid (own_below HO.out (bk_tr h2 (bk_alloc (BK.refl w2) (.cells #[.int .i64 n] 3))))
            clear h2
            go_wp2_with (at_builtin; go_must (refine wpI rfl (.tmp 38) (.tmp 40) rfl w.heap.size (.slice p' A.length c') A rfl O2.out (some ⟨w2.heap.size, 0, none⟩) 1 [n] rfl ?c1 ?c2 ?c3 ?_))
            case c1 => exact RO.own (own_one w2 w2.heap.size (Nat.le_refl _) n)
            case c2 => have := HAK.out; show A.length + 1 ≤ 1000000; omega
            case c3 => have := bk_size K2.out; rw [sz1]; omega
            intro p5 c5 w5 ho hg
            have HO5 := Lib.hid ho
            have HK5 := Lib.hid (bk_grownI (bk_tr K2.out (bk_alloc (BK.refl w2) (.cells #[.int .i64 n] 3))) O2.out (Nat.le_refl _) hg)
            clear ho hg
            go_wp2_with fail
            go_roundw
            case rel => exact ⟨k + 1, A ++ [n], p5, c5, by omega, by rw [List.length_append]; show A.length + 1 = k + 1; have := HAK.out; omega, by rw [List.length_append]; rfl, by go_num, by rw [List.length_append]; exact HO5.out, Lib.hid HQ.out, HK5.out⟩
            case measure => simp [intOf]; omega
        · have eq : ¬ (((s[0]'hpos).toNat : Nat) : Int) = 114 := by
            rw [← hd]
            intro h; exact hdd (UInt8.toNat_inj.1 (by show d.toNat = 114; omega))
          have HQ := Lib.hid (HNO.out (by rw [HXD.out]; show (if d = 114 then whO _ else none) = none; rw [if_neg hdd]))
          clear hdd hd
          go_wp2_with fail
          go_ret2
          exact gp_no HQ.out HK.out
    · obtain rfl : k = l.length := by omega
      have HQ : Hid (o = some A) := Lib.hid (HE.out.symm.trans hre.out)
      clear hown hkw hre
      go_wp2_with fail
      go_ret2
      rw [HQ.out]
      exact ⟨p', c', rfl, HO.out, HK.out⟩
end
/-! part YD -/
section
open Go.RowKit Go.Shelf
theorem split_sp (s : ByteArray) (hs : s.size ≤ 1000000) (w : World) : Calls Tryz.prog 57 #[.string s, .int .u8 32] w (FP w (sp (bl s))) := by
  have h := split57 s hs 32 w
  rw [spc32] at h
  exact h
theorem sp_mem {l x : List UInt8} (h : x ∈ sp l) : x.length ≤ l.length := spc_mem 32 l x (by rw [spc32]; exact h)
theorem sp_len (l : List UInt8) : (sp l).length ≤ l.length + 1 := by have := spc_len 32 l; rwa [spc32] at this
def HDP (w : World) (o : Option (Int × Int)) (e : Ending) (w' : World) : Prop := match o with
  | some p => e = .returned (.tuple #[.int .i64 p.1, .int .i64 p.2, .bool true]) ∧ BK w w'
  | none => ∃ a b : Int, e = .returned (.tuple #[.int .i64 a, .int .i64 b, .bool false]) ∧ BK w w'
theorem hdp_no {w w' : World} {o : Option (Int × Int)} {a b : Int} (h : o = none) (hb : BK w w') : HDP w o (.returned (.tuple #[.int .i64 a, .int .i64 b, .bool false])) w' := by subst h; exact ⟨a, b, rfl, hb⟩
theorem hdp_yes {w w' : World} {o : Option (Int × Int)} {a b : Int} (h : o = some (a, b)) (hb : BK w w') : HDP w o (.returned (.tuple #[.int .i64 a, .int .i64 b, .bool true])) w' := by subst h; exact ⟨rfl, hb⟩
theorem headO_ne {t : List (List UInt8)} (h : t.length ≠ 4) : headO t = none := by
  match t with
  | [] => rfl
  | [_] => rfl
  | [_, _] => rfl
  | [_, _, _] => rfl
  | [a, b, c, d] => simp at h
  | a :: b :: c :: d :: e :: r => rfl
theorem headO_4 (a b c d : List UInt8) : headO [a, b, c, d] = if a = widthL ∧ c = regsL then (match whO b with | none => none | some x => match whO d with | none => none | some y => some (x, y)) else none := rfl
theorem eqT (x l : List UInt8) : ((sB x).toList == l) = decide (x = l) := by rw [bl_eqL]; rfl
theorem optI_shape (o : Option Int) : ∃ (a : Int) (b : Bool), optI o = .tuple #[.int .i64 a, .bool b] ∧ (b = false → o = none) ∧ (b = true → o = some a) := by
  cases o with
  | none => exact ⟨0, false, rfl, fun _ => rfl, (fun h => nomatch h)⟩
  | some a => exact ⟨a, true, rfl, (fun h => nomatch h), fun _ => rfl⟩
set_option maxRecDepth 100000 in
set_option maxHeartbeats 2000000 in
theorem head58 (s : ByteArray) (hs : s.size ≤ 100000) (w : World) : Calls Tryz.prog 58 #[.string s] w (HDP w (headO (sp (bl s)))) := by
  have S0 := Lib.hid (split_sp s (by omega) w)
  have HM := Lib.hid (fun (x : List UInt8) (h : x ∈ sp (bl s)) => (Nat.le_trans (sp_mem h) (by rw [bl_len]; omega) : x.length ≤ 1000000))
  generalize sp (bl s) = t at S0 HM ⊢
  clear hs
  go_enter Tryz.func58, Tryz.ntmps58
  go_upto_region 2 with (go_at_call 57; refine S0.out.mono ?_; rintro e w1 ⟨p, c, rfl, ho, hb⟩)
  have K1 := Lib.hid hb
  have R1 := Lib.hid (RL.own ho)
  clear ho hb S0
  by_cases hl : t.length = 4
  · match t, hl with
    | [x0, x1, x2, x3], _ =>
      obtain ⟨b, o, rfl, c0⟩ := R1.out.get 0 (by simp)
      obtain ⟨b1, o1, e1, c1⟩ := R1.out.get 1 (by simp)
      obtain ⟨b2, o2, e2, c2⟩ := R1.out.get 2 (by simp)
      obtain ⟨b3, o3, e3, c3⟩ := R1.out.get 3 (by simp)
      simp only [Option.some.injEq, Addr.mk.injEq] at e1 e2 e3
      obtain ⟨rfl, rfl, _⟩ := e1
      obtain ⟨rfl, rfl, _⟩ := e2
      obtain ⟨rfl, rfl, _⟩ := e3
      simp only [Nat.add_zero, List.getElem_cons_zero, List.getElem_cons_succ] at c0 c1 c2 c3
      have M1 := Lib.hid (HM.out x1 (by simp))
      have M3 := Lib.hid (HM.out x3 (by simp))
      have HH := Lib.hid (headO_4 x0 x1 x2 x3)
      have q0 := eqT x0 [119, 105, 100, 116, 104]
      have q2 := eqT x2 [114, 101, 103, 115]
      have HC := Lib.hid (fun wc (hb : BK w1 wc) => R1.out.keep hb)
      clear R1 HM
      show Code.wp _ _ _ _ _
      by_cases h0 : x0 = widthL
      · rw [show decide (x0 = [119, 105, 100, 116, 104]) = true from decide_eq_true h0] at q0
        by_cases h2 : x2 = regsL
        · rw [show decide (x2 = [114, 101, 103, 115]) = true from decide_eq_true h2] at q2
          have H1 := Lib.hid (HH.out.trans (if_pos ⟨h0, h2⟩))
          clear h0 h2 HH
          obtain ⟨a1, z1, hz1, n1, y1⟩ := optI_shape (whO x1)
          obtain ⟨a3, z3, hz3, n3, y3⟩ := optI_shape (whO x3)
          have W1 : Hid (∀ W, Calls Tryz.prog 81 #[.string (sB x1)] W fun e w' => e = .returned (.tuple #[.int .i64 a1, .bool z1]) ∧ BK W w') := Lib.hid (fun W => by have := whole81 (sB x1) M1.out W; rw [show bl (sB x1) = x1 from rfl, hz1] at this; exact this)
          have W3 : Hid (∀ W, Calls Tryz.prog 81 #[.string (sB x3)] W fun e w' => e = .returned (.tuple #[.int .i64 a3, .bool z3]) ∧ BK W w') := Lib.hid (fun W => by have := whole81 (sB x3) M3.out W; rw [show bl (sB x3) = x3 from rfl, hz3] at this; exact this)
          have N1 := Lib.hid n1
          have N3 := Lib.hid n3
          have Y1 := Lib.hid y1
          have Y3 := Lib.hid y3
          have C3 := Lib.hid (fun wc (hb : BK w1 wc) => (hb.bl.cell (p := ⟨b, o + 3, none⟩) (World.block_lt_of_cell? w1 _ c3)).trans c3)
          clear hz1 hz3 n1 n3 y1 y3 M1 M3
          generalize sB x0 = s0 at c0 q0
          generalize sB x1 = s1 at c1 W1
          generalize sB x2 = s2 at c2 q2
          generalize sB x3 = s3 at c3 W3 C3
          go_upto_region 5 with (go_at_call 81; refine (W1.out _).mono ?_; rintro e w2 ⟨rfl, h2⟩)
          have d3 := C3.out w2 h2
          have K2 := Lib.hid (bk_tr K1.out h2)
          clear h2 c0 c1 c2 c3
          go_upto_region 6 with (go_at_call 81; refine (W3.out _).mono ?_; rintro e w3 ⟨rfl, h3⟩)
          have K3 := Lib.hid (bk_tr K2.out h3)
          clear h3 d3
          cases z1
          · go_wp2_with fail
            go_ret3
            exact hdp_no (H1.out.trans (by rw [N1.out (by trivial)])) K3.out
          · cases z3
            · go_wp2_with fail
              go_ret3
              exact hdp_no (H1.out.trans (by rw [Y1.out (by trivial)]; dsimp only; rw [N3.out (by trivial)])) K3.out
            · go_wp2_with fail
              go_ret3
              exact hdp_yes (H1.out.trans (by rw [Y1.out (by trivial)]; dsimp only; rw [Y3.out (by trivial)])) K3.out
        · rw [show decide (x2 = [114, 101, 103, 115]) = false from decide_eq_false h2] at q2
          have H1 := Lib.hid (HH.out.trans (if_neg (fun h => h2 h.2)))
          clear h0 h2 HH
          generalize sB x0 = s0 at c0 q0
          generalize sB x2 = s2 at c2 q2
          go_wp2_with fail
          go_ret3
          exact hdp_no H1.out K1.out
      · rw [show decide (x0 = [119, 105, 100, 116, 104]) = false from decide_eq_false h0] at q0
        have H1 := Lib.hid (HH.out.trans (if_neg (fun h => h0 h.1)))
        clear h0 HH
        generalize sB x0 = s0 at c0 q0
        go_wp2_with fail
        go_ret3
        exact hdp_no H1.out K1.out
  · have H1 := Lib.hid (headO_ne hl)
    have q4 : ((t.length : Int) != 4) = true := by simp; omega
    clear hl
    go_wp2_with fail
    go_ret3
    exact hdp_no H1.out K1.out
end
/-! part YE -/
section
open Go.RowKit Go.Shelf
def insG (op : Int) (x : Int) (l' : List (List UInt8)) : Option I6 := match regsO l' with
  | none => none
  | some l => if (l.length : Int) = need op then some ⟨op, l.getD 0 0, l.getD 1 0, l.getD 2 0, l.getD 3 0, x⟩ else none
theorem insO_no {nm : List UInt8} {rest : List (List UInt8)} (h : ofL nm = none) : insO (nm :: rest) = none := by
  unfold insO; simp only [h]
theorem insO_gen {nm : List UInt8} {rest : List (List UInt8)} {op : Nat} (h : ofL nm = some op) (h1 : op ≠ 1) : insO (nm :: rest) = insG op 0 rest := by
  unfold insO insG; simp only [h]; rw [if_neg h1]; cases regsO rest <;> rfl
theorem insO_len {nm : List UInt8} {rest : List (List UInt8)} (h : ofL nm = some 1) (h1 : rest.length ≠ 2) : insO (nm :: rest) = none := by
  unfold insO; simp only [h]
  match rest, h1 with
  | [], _ => rfl
  | [_], _ => rfl
  | [_, _], h => simp at h
  | _ :: _ :: _ :: _, _ => rfl
theorem insO_two {nm a b : List UInt8} (h : ofL nm = some 1) : insO [nm, a, b] = match decO b with | none => none | some x => insG 1 x [a] := by
  unfold insO insG; simp only [h]
  show (match regO a with | none => none | some d => match decO b with | none => none | some x => some (⟨1, d, 0, 0, 0, x⟩ : I6)) = _
  cases hb : decO b with
  | none => cases regO a <;> rfl
  | some x =>
    show _ = match (match regO a with | none => none | some n => match regsO [] with | none => none | some l => some (n :: l)) with | none => none | some l => if (l.length : Int) = need 1 then some (⟨1, l.getD 0 0, l.getD 1 0, l.getD 2 0, l.getD 3 0, x⟩ : I6) else none
    cases regO a <;> rfl
theorem sxA {w0 w : World} {b : Nat} {j : I6} (hb : I6b w b j) (hk : BK w0 w) (hn : w0.heap.size ≤ b) (i : I6) : I6b (six w b i) b i ∧ BK w0 (six w b i) :=
  ⟨(((((hb.seto i.op).setd i.dst).seta i.a).setb i.b).setc i.c).setm i.imm, bk_set (bk_set (bk_set (bk_set (bk_set (bk_set hk _ _ hn) _ _ hn) _ _ hn) _ _ hn) _ _ hn) _ _ hn⟩
theorem I6b.fr {w : World} {b : Nat} {i : I6} (h : I6b w b i) (j : Nat) : w.frozen? ⟨b, j, none⟩ = false := frozen_of_row w b j _ 42 h
def i0 : I6 := ⟨0, 0, 0, 0, 0, 0⟩
theorem RL.tail {w : World} {b o c : Nat} {x : List UInt8} {l : List (List UInt8)} (h : RL w (some ⟨b, o, none⟩) c (x :: l)) : RL w (if c = 1 then some ⟨b, o, none⟩ else some ⟨b, o + 1, none⟩) (c - 1) l := by
  have hle := h.le
  simp only [List.length_cons] at hle
  refine ⟨fun e => (by split at e <;> cases e), by omega, fun k hk => ?_⟩
  obtain ⟨b', o', e, hc⟩ := h.get (k + 1) (by simpa using hk)
  simp only [Option.some.injEq, Addr.mk.injEq] at e
  obtain ⟨rfl, rfl, _⟩ := e
  rw [if_neg (by omega)]
  exact ⟨b, o + 1, rfl, by rw [show o + 1 + k = o + (k + 1) by omega]; simpa using hc⟩
theorem RL.one {w : World} {p : Option Addr} {c : Nat} {x : List UInt8} {l : List (List UInt8)} (h : RL w p c (x :: l)) : RL w p c [x] := by
  have hle := h.le
  refine ⟨h.nl, by simp only [List.length_cons, List.length_nil] at *; omega, fun k hk => ?_⟩
  obtain ⟨b', o', e, hc⟩ := h.get k (by simp only [List.length_cons, List.length_nil] at *; omega)
  refine ⟨b', o', e, ?_⟩
  have : k = 0 := by simpa using hk
  subst this
  simpa using hc
theorem RL.far {w : World} {p : Option Addr} {c n : Nat} {l : List (List UInt8)} (h : RL w p c l) (j : Nat) (v : Value) (hn : ∀ b o, p = some ⟨b, o, none⟩ → b ≠ n) : RL (w.setCell ⟨n, j, none⟩ v) p c l :=
  ⟨h.nl, h.le, fun k hk => by
    obtain ⟨b, o, e, hc⟩ := h.get k hk
    exact ⟨b, o, e, (World.cell?_setCell_far w ⟨n, j, none⟩ ⟨b, o + k, none⟩ v (fun e2 => hn b o e e2.symm)).trans hc⟩⟩
def slL : Value → Nat
  | .slice _ n _ => n
  | _ => 0
theorem insG_ok {op x : Int} {l' : List (List UInt8)} {l : List Int} (h : regsO l' = some l) (hn : (l.length : Int) = need op) {a0 a1 a2 a3 : Int} {m : Nat} (hA : l ++ List.replicate m 0 = [a0, a1, a2, a3]) : insG op x l' = some ⟨op, a0, a1, a2, a3, x⟩ := by
  have e : ∀ j, l.getD j 0 = [a0, a1, a2, a3].getD j 0 := by
    intro j
    rw [← hA, List.getD_eq_getElem?_getD, List.getD_eq_getElem?_getD]
    by_cases hj : j < l.length
    · rw [List.getElem?_append_left hj]
    · rw [List.getElem?_append_right (by omega), List.getElem?_eq_none (by omega), List.getElem?_replicate]
      split <;> rfl
  unfold insG
  rw [h]
  dsimp only
  rw [if_pos hn, e 0, e 1, e 2, e 3]
  rfl
def IOP (w : World) (o : Option I6) (e : Ending) (w' : World) : Prop := match o with
  | some i => e = .returned (.tuple #[av i, .bool true]) ∧ BK w w'
  | none => e = .returned (.tuple #[av i0, .bool false]) ∧ BK w w'
theorem iop_yes {w w' : World} {o : Option I6} {i : I6} (h : o = some i) (hb : BK w w') : IOP w o (.returned (.tuple #[av i, .bool true])) w' := by subst h; exact ⟨rfl, hb⟩
theorem iop_no {w w' : World} {o : Option I6} (h : o = none) (hb : BK w w') : IOP w o (.returned (.tuple #[.agg #[.int .i64 0, .int .i64 0, .int .i64 0, .int .i64 0, .int .i64 0, .int .u64 0], .bool false])) w' := by subst h; exact ⟨rfl, hb⟩
set_option maxRecDepth 100000 in
set_option maxHeartbeats 4000000 in
theorem ins59 (s : ByteArray) (hs : s.size ≤ 100000) (w : World) : Calls Tryz.prog 59 #[.string s] w (IOP w (insO (sp (bl s)))) := by
  have S0 := Lib.hid (fun w => split_sp s (by omega) w)
  have HM := Lib.hid (fun (x : List UInt8) (h : x ∈ sp (bl s)) => (Nat.le_trans (sp_mem h) (by rw [bl_len]; omega) : x.length ≤ 100000))
  have HLN := Lib.hid (show (sp (bl s)).length ≤ 100001 from by have := sp_len (bl s); rw [bl_len] at this; omega)
  have k0 := bk_alloc (BK.refl w) (.cells #[.int .i64 0, .int .i64 0, .int .i64 0, .int .i64 0, .int .i64 0, .int .u64 0] 42)
  have B0 : I6b (w.alloc (.cells #[.int .i64 0, .int .i64 0, .int .i64 0, .int .i64 0, .int .i64 0, .int .u64 0] 42)) w.heap.size i0 := heap_alloc_new w _
  obtain ⟨nm, rest, ht⟩ : ∃ nm rest, sp (bl s) = nm :: rest := by
    cases h : sp (bl s) with
    | nil => exact absurd h (sp_ne _)
    | cons a b => exact ⟨a, b, rfl⟩
  rw [ht] at S0 HM HLN ⊢
  clear hs ht
  go_enter Tryz.func59, Tryz.ntmps59
  go_upto_region 1 with (fail)
  generalize w.alloc (.cells #[.int .i64 0, .int .i64 0, .int .i64 0, .int .i64 0, .int .i64 0, .int .u64 0] 42) = w0 at k0 B0 ⊢
  have K0 := Lib.hid k0
  have HN := Lib.hid (Nat.le_refl w.heap.size)
  generalize hg : w.heap.size = n0 at B0 HN ⊢
  have HG := Lib.hid (show w.heap.size ≤ n0 from by omega)
  have HB0 := Lib.hid B0
  clear k0 B0 hg HN
  go_upto_region 2 with (go_at_call 57; refine (S0.out w0).mono ?_; rintro e w1 ⟨p, c, rfl, ho, hb⟩)
  have K1 := Lib.hid (bk_tr K0.out hb)
  have R1 := Lib.hid (RL.own ho)
  have HB1 := Lib.hid (HB0.out.keep hb)
  clear ho hb S0 HB0
  obtain ⟨b, o, rfl, c0⟩ := R1.out.get 0 (by simp)
  simp only [Nat.add_zero, List.getElem_cons_zero] at c0
  have O12 := Lib.hid (fun W => of12 (sB nm) W)
  unfold ofV at O12
  rw [show bl (sB nm) = nm from rfl] at O12
  generalize sB nm = s0 at c0 O12
  cases hop : ofL nm with
  | none =>
    rw [hop] at O12
    have HQ := Lib.hid (insO_no (rest := rest) hop)
    have O13 : Hid (∀ W, Calls Tryz.prog 12 #[.string s0] W fun e w' => e = .returned (.tuple #[.int .i64 0, .bool false]) ∧ BK W w') := Lib.hid O12.out
    clear O12 hop
    go_upto_region 3 with (go_at_call 12; refine (O13.out _).mono ?_; rintro e w2 ⟨rfl, h2⟩)
    have K2 := Lib.hid (bk_tr K1.out h2)
    have HB2 := HB1.out.keep h2
    obtain ⟨z0, z1, z2, z3, z4, z5⟩ := HB2.x
    have f0 := HB2.fr 0
    have f1 := HB2.fr 1
    have f2 := HB2.fr 2
    have f3 := HB2.fr 3
    have f4 := HB2.fr 4
    have f5 := HB2.fr 5
    have E := Lib.hid (sxA HB2 K2.out HG.out i0)
    unfold six i0 at E
    clear h2 HB2 c0
    unfold i0 at z0 z1 z2 z3 z4 z5
    dsimp only at z0 z1 z2 z3 z4 z5 E
    go_wp2_with fail
    generalize hZ : World.setCell _ ⟨n0, 5, none⟩ _ = Z at E ⊢
    clear hZ z0 z1 z2 z3 z4 z5 f0 f1 f2 f3 f4 f5
    obtain ⟨z0, z1, z2, z3, z4, z5⟩ := E.out.1.x
    refine bodyPost_ret (v := .tuple #[.agg #[.int .i64 0, .int .i64 0, .int .i64 0, .int .i64 0, .int .i64 0, .int .u64 0], .bool false]) (by simp [results, Tryz.results59, go_sem, z0, z1, z2, z3, z4, z5]) rfl ?_
    exact iop_no HQ.out E.out.2
  | some op =>
    rw [hop] at O12
    have O13 : Hid (∀ W, Calls Tryz.prog 12 #[.string s0] W fun e w' => e = .returned (.tuple #[.int .i64 (op : Int), .bool true]) ∧ BK W w') := Lib.hid O12.out
    clear O12
    go_upto_if 31 with (go_at_call 12; refine (O13.out _).mono ?_; rintro e w2 ⟨rfl, h2⟩)
    have HOP := Lib.hid hop
    have hn7 : ⟨((op : Nat) : Int), 0, 0, 0, 0, 0⟩ = (⟨(op : Int), 0, 0, 0, 0, 0⟩ : I6) := rfl
    have HB7 := Lib.hid (I6b.new w2 ⟨(op : Int), 0, 0, 0, 0, 0⟩)
    have ka := bk_alloc (BK.refl w2) (.cells #[.int .i64 (op : Int), .int .i64 0, .int .i64 0, .int .i64 0, .int .i64 0, .int .u64 0] 42)
    have K3 := Lib.hid (bk_tr (bk_tr K1.out h2) ka)
    have HB3 := Lib.hid ((HB1.out.keep h2).keep ka)
    have RT := Lib.hid ((R1.out.keep (bk_tr h2 ka)).tail)
    have hn0 : n0 < w2.heap.size := by have := (Array.getElem?_eq_some_iff.1 (HB1.out.keep h2)).1; exact this
    have H07 := Lib.hid hn0
    have HW7 := Lib.hid (show w.heap.size ≤ w2.heap.size from by have := HG.out; omega)
    have HM' := Lib.hid (fun y (h : y ∈ rest) => HM.out y (List.mem_cons_of_mem _ h))
    have HL' := Lib.hid (show rest.length ≤ 100000 from by have := HLN.out; simp only [List.length_cons] at this; omega)
    have HOB := Lib.hid (ofL_lt hop)
    have HBL := Lib.hid (show b < w2.heap.size from Nat.lt_of_lt_of_le (World.block_lt_of_cell? w1 _ c0) (bk_size h2))
    have HQB := Lib.hid (show ∀ g o2, (if c = 1 then some (⟨b, o, none⟩ : Addr) else some ⟨b, o + 1, none⟩) = some ⟨g, o2, none⟩ → g = b from fun g o2 e => by split at e <;> (simp at e; omega))
    clear h2 ka hop hn7 hn0 c0 R1 HB1 HM HLN O13
    dsimp only at HB7
    generalize w2.alloc (.cells #[.int .i64 (op : Int), .int .i64 0, .int .i64 0, .int .i64 0, .int .i64 0, .int .u64 0] 42) = w3 at HB7 K3 HB3 RT ⊢
    generalize w2.heap.size = n7 at HB7 H07 HW7 HBL ⊢
    generalize (if c = 1 then some (⟨b, o, none⟩ : Addr) else some ⟨b, o + 1, none⟩) = q at RT HQB ⊢
    generalize hcd : c - 1 = d at RT ⊢
    clear hcd
    go_cut [8] (fun s8 wx => ∃ (q8 : Option Addr) (d8 : Nat) (l' : List (List UInt8)) (x : Int), s8 = .slice q8 l'.length d8 ∧ RL wx q8 d8 l' ∧ l'.length ≤ 100000 ∧ (∀ y ∈ l', y.length ≤ 100000) ∧ I6b wx n7 ⟨(op : Int), 0, 0, 0, 0, x⟩ ∧ I6b wx n0 i0 ∧ BK w wx ∧ Hid (insO (nm :: rest) = insG op x l'))
    case first =>
      by_cases h1 : op = 1
      · have e1 : ((op : Int) == 1) = true := by simp [h1]
        have HO1 : Hid (ofL nm = some 1) := Lib.hid (by rw [HOP.out, h1])
        have H1 := Lib.hid h1
        clear h1
        by_cases hl : rest.length = 2
        · obtain ⟨a, b', hr⟩ : ∃ a b', rest = [a, b'] := by
            match rest, hl with
            | [a, b'], _ => exact ⟨a, b', rfl⟩
          subst hr
          clear hl
          obtain ⟨g, o2, rfl, _⟩ := RT.out.get 0 (by simp)
          obtain ⟨g', o2', e', c1⟩ := RT.out.get 1 (by simp)
          simp only [Option.some.injEq, Addr.mk.injEq] at e'
          obtain ⟨rfl, rfl, _⟩ := e'
          simp only [List.getElem_cons_succ, List.getElem_cons_zero] at c1
          have HT := Lib.hid (insO_two (a := a) (b := b') HO1.out)
          have D := Lib.hid (fun W => dec82 (sB b') (by have := HM'.out b' (by simp); rw [sB_sz]; omega) W)
          rw [show bl (sB b') = b' from rfl] at D
          generalize sB b' = sb at c1 D
          cases hx : decO b' with
          | none =>
            rw [hx] at D
            have HQ : Hid (insO [nm, a, b'] = none) := Lib.hid (by rw [HT.out, hx])
            have D2 : Hid (∀ W, Calls Tryz.prog 82 #[.string sb] W fun e w' => e = .returned (.tuple #[.int .u64 0, .bool false]) ∧ BK W w') := Lib.hid D.out
            clear D hx HT
            go_upto_region 12 with (go_at_call 82; refine (D2.out _).mono ?_; rintro e w4 ⟨rfl, h4⟩)
            have HB9 := HB3.out.keep h4
            have K9 := Lib.hid (bk_tr K3.out h4)
            clear h4 c1
            obtain ⟨z0, z1, z2, z3, z4, z5⟩ := HB9.x
            have f0 := HB9.fr 0
            have f1 := HB9.fr 1
            have f2 := HB9.fr 2
            have f3 := HB9.fr 3
            have f4 := HB9.fr 4
            have f5 := HB9.fr 5
            have E := Lib.hid (sxA HB9 K9.out HG.out i0)
            unfold six i0 at E
            clear HB9
            unfold i0 at z0 z1 z2 z3 z4 z5
            dsimp only at z0 z1 z2 z3 z4 z5 E
            go_wp2_with fail
            generalize hZ : World.setCell _ ⟨n0, 5, none⟩ _ = Z at E ⊢
            clear hZ z0 z1 z2 z3 z4 z5 f0 f1 f2 f3 f4 f5
            obtain ⟨z0, z1, z2, z3, z4, z5⟩ := E.out.1.x
            refine bodyPost_ret (v := .tuple #[.agg #[.int .i64 0, .int .i64 0, .int .i64 0, .int .i64 0, .int .i64 0, .int .u64 0], .bool false]) (by simp [results, Tryz.results59, go_sem, z0, z1, z2, z3, z4, z5]) rfl ?_
            exact iop_no HQ.out E.out.2
          | some x =>
            rw [hx] at D
            have HQ : Hid (insO [nm, a, b'] = insG (op : Int) x [a]) := Lib.hid (by rw [HT.out, hx, H1.out]; rfl)
            have D2 : Hid (∀ W, Calls Tryz.prog 82 #[.string sb] W fun e w' => e = .returned (.tuple #[.int .u64 (x : Int), .bool true]) ∧ BK W w') := Lib.hid D.out
            clear D hx HT
            go_upto_region 13 with (go_at_call 82; refine (D2.out _).mono ?_; rintro e w4 ⟨rfl, h4⟩)
            have B74 := HB7.out.keep h4
            obtain ⟨y0, y1, y2, y3, y4, y5⟩ := B74.x
            have f5 := B74.fr 5
            have S7 := Lib.hid (B74.setm (x : Int))
            have S0 := Lib.hid ((HB3.out.keep h4).st (st_set w4 n7 5 (.int .u64 (x : Int))) (fun e => by have := H07.out; have e : n0 = n7 := e; omega))
            have SK := Lib.hid (bk_set (bk_tr K3.out h4) ⟨n7, 5, none⟩ (.int .u64 (x : Int)) HW7.out)
            have SR := Lib.hid ((RT.out.keep h4).one.far (n := n7) 5 (.int .u64 (x : Int)) (fun b2 o3 e => by
              simp only [Option.some.injEq, Addr.mk.injEq] at e
              have := HQB.out g o2 rfl; have := HBL.out; omega))
            have hd2 : 2 ≤ d := by have := RT.out.le; simpa using this
            have hd3 : (1 : Int) ≤ (d : Int) := by omega
            clear h4 c1 B74
            go_wp2_with fail
            go_meet
            exact ⟨some ⟨g, o2, none⟩, d, [a], x, rfl, SR.out, by simp, fun y hy => HM'.out y (by simp at hy; simp [hy]), S7.out, S0.out, SK.out, Lib.hid HQ.out⟩
        · have HQ := Lib.hid (insO_len HO1.out hl)
          have e2 : ((rest.length : Int) != 2) = true := by simp; omega
          have HB9 := HB3.out
          have K9 := K3
          clear hl
          obtain ⟨z0, z1, z2, z3, z4, z5⟩ := HB9.x
          have f0 := HB9.fr 0
          have f1 := HB9.fr 1
          have f2 := HB9.fr 2
          have f3 := HB9.fr 3
          have f4 := HB9.fr 4
          have f5 := HB9.fr 5
          have E := Lib.hid (sxA HB9 K9.out HG.out i0)
          unfold six i0 at E
          clear HB9
          unfold i0 at z0 z1 z2 z3 z4 z5
          dsimp only at z0 z1 z2 z3 z4 z5 E
          go_wp2_with fail
          generalize hZ : World.setCell _ ⟨n0, 5, none⟩ _ = Z at E ⊢
          clear hZ z0 z1 z2 z3 z4 z5 f0 f1 f2 f3 f4 f5
          obtain ⟨z0, z1, z2, z3, z4, z5⟩ := E.out.1.x
          refine bodyPost_ret (v := .tuple #[.agg #[.int .i64 0, .int .i64 0, .int .i64 0, .int .i64 0, .int .i64 0, .int .u64 0], .bool false]) (by simp [results, Tryz.results59, go_sem, z0, z1, z2, z3, z4, z5]) rfl ?_
          exact iop_no HQ.out E.out.2
      · have e1 : ((op : Int) == 1) = false := by simp; omega
        have HQ := Lib.hid (insO_gen (rest := rest) HOP.out h1)
        clear h1
        go_wp2_with fail
        go_meet
        exact ⟨q, d, rest, 0, rfl, RT.out, HL'.out, HM'.out, HB7.out, HB3.out, K3.out, Lib.hid HQ.out⟩
    case rest =>
    obtain ⟨q8, d8, l', x, rfl, r8, hl8, hm8, b7, b0, k8, hin⟩ := hcut
    obtain ⟨wA, hwA⟩ : ∃ x, x = wc := ⟨_, rfl⟩
    subst hwA
    have B7 := Lib.hid b7
    have B0 := Lib.hid b0
    have K8 := Lib.hid k8
    have HL8 := Lib.hid hl8
    have G60 := Lib.hid (regs60 l' q8 d8 wA r8 hm8 (by omega))
    have H70 := Lib.hid (show n7 < wA.heap.size from (Array.getElem?_eq_some_iff.1 b7).1)
    clear r8 hm8 b7 b0 k8 hl8 HB7 HB3 K3 RT HQB HM' HL' HBL
    have HOPS := Lib.hid (show 0 ≤ (op : Int) ∧ (op : Int) ≤ 19 from by have := HOB.out.1; omega)
    have SC := Lib.hid (srcs_cases (op : Int))
    cases hro : regsO l' with
    | none =>
      rw [hro] at G60
      have HQ : Hid (insO (nm :: rest) = none) := Lib.hid (hin.out.trans (by unfold insG; rw [hro]))
      have G61 : Hid (Calls Tryz.prog 60 #[.slice q8 l'.length d8] wA fun e w' => e = .returned (.tuple #[.slice none 0 0, .bool false]) ∧ BK wA w') := Lib.hid G60.out
      clear G60 hro hin
      go_upto_if 58 with (first | (go_at_call 60; refine G61.out.mono ?_; rintro e w4 ⟨rfl, h4⟩) | (go_at_call 17; refine (src17 _ w4).mono ?_; rintro e w5 ⟨rfl, rfl⟩))
      have HB9 := B0.out.keep h4
      have K9 := Lib.hid (bk_tr K8.out h4)
      clear h4
      by_cases h0 : op = 0
      · have e0 : ((op : Int) != 0) = false := by simp [h0]
        clear h0
        obtain ⟨z0, z1, z2, z3, z4, z5⟩ := HB9.x
        have f0 := HB9.fr 0
        have f1 := HB9.fr 1
        have f2 := HB9.fr 2
        have f3 := HB9.fr 3
        have f4 := HB9.fr 4
        have f5 := HB9.fr 5
        have E := Lib.hid (sxA HB9 K9.out HG.out i0)
        unfold six i0 at E
        clear HB9
        unfold i0 at z0 z1 z2 z3 z4 z5
        dsimp only at z0 z1 z2 z3 z4 z5 E
        go_wp2_with fail
        generalize hZ : World.setCell _ ⟨n0, 5, none⟩ _ = Z at E ⊢
        clear hZ z0 z1 z2 z3 z4 z5 f0 f1 f2 f3 f4 f5
        obtain ⟨z0, z1, z2, z3, z4, z5⟩ := E.out.1.x
        refine bodyPost_ret (v := .tuple #[.agg #[.int .i64 0, .int .i64 0, .int .i64 0, .int .i64 0, .int .i64 0, .int .u64 0], .bool false]) (by simp [results, Tryz.results59, go_sem, z0, z1, z2, z3, z4, z5]) rfl ?_
        exact iop_no HQ.out E.out.2
      · have e0 : ((op : Int) != 0) = true := by simp; omega
        clear h0
        obtain ⟨z0, z1, z2, z3, z4, z5⟩ := HB9.x
        have f0 := HB9.fr 0
        have f1 := HB9.fr 1
        have f2 := HB9.fr 2
        have f3 := HB9.fr 3
        have f4 := HB9.fr 4
        have f5 := HB9.fr 5
        have E := Lib.hid (sxA HB9 K9.out HG.out i0)
        unfold six i0 at E
        clear HB9
        unfold i0 at z0 z1 z2 z3 z4 z5
        dsimp only at z0 z1 z2 z3 z4 z5 E
        go_wp2_with fail
        generalize hZ : World.setCell _ ⟨n0, 5, none⟩ _ = Z at E ⊢
        clear hZ z0 z1 z2 z3 z4 z5 f0 f1 f2 f3 f4 f5
        obtain ⟨z0, z1, z2, z3, z4, z5⟩ := E.out.1.x
        refine bodyPost_ret (v := .tuple #[.agg #[.int .i64 0, .int .i64 0, .int .i64 0, .int .i64 0, .int .i64 0, .int .u64 0], .bool false]) (by simp [results, Tryz.results59, go_sem, z0, z1, z2, z3, z4, z5]) rfl ?_
        exact iop_no HQ.out E.out.2
    | some l =>
      rw [hro] at G60
      have HRO := Lib.hid hro
      have HIN := hin
      have G61 : Hid (Calls Tryz.prog 60 #[.slice q8 l'.length d8] wA fun e w' => ∃ p c, e = .returned (.tuple #[.slice p l.length c, .bool true]) ∧ w'.ownsRow wA.heap.size 3 1 (.slice p l.length c) l.length (ints l) ∧ BK wA w') := Lib.hid G60.out
      clear G60 hro hin
      go_upto_if 58 with (first | (go_at_call 60; refine G61.out.mono ?_; rintro e w4 ⟨p4, c4, rfl, ho4, h4⟩) | (go_at_call 17; refine (src17 _ w4).mono ?_; rintro e w5 ⟨rfl, rfl⟩))
      have O4 := Lib.hid ho4
      have K4 := Lib.hid h4
      clear ho4 h4 G61
      go_cut [13] (fun s13 wx => s13 = .int .i64 (need (op : Int)) ∧ wx = w4)
      case first =>
        have hsb : -1 ≤ srcs (op : Int) ∧ srcs (op : Int) ≤ 3 := by rcases SC.out with h | h | h | h | h <;> omega
        by_cases h0 : op = 0
        · have e0 : ((op : Int) != 0) = false := by simp [h0]
          have HND := Lib.hid (show need (op : Int) = srcs (op : Int) from by unfold need; rw [if_pos (by omega)]; omega)
          clear h0
          go_wp2_with fail
          go_meet
          exact ⟨by rw [HND.out], rfl⟩
        · have e0 : ((op : Int) != 0) = true := by simp; omega
          have HND := Lib.hid (show need (op : Int) = srcs (op : Int) + 1 from by unfold need; rw [if_neg (by omega)])
          clear h0
          go_wp2_with fail
          go_meet
          exact ⟨by rw [HND.out], rfl⟩
      case rest =>
      obtain ⟨rfl, rfl⟩ := hcut
      by_cases hln : (l.length : Int) = need (op : Int)
      · have HLN := Lib.hid hln
        have el : ((l.length : Int) != need (op : Int)) = false := by simp [hln]
        have HL4 := Lib.hid (show l.length ≤ 4 from by have : need (op : Int) ≤ 4 := by { unfold need; rcases SC.out with h | h | h | h | h <;> (rw [h]; split <;> omega) }
                                                       omega)
        clear hln
        go_wp2_with fail
        go_loopw [11] (fun v wr => ∃ (m : Nat) (p' : Option Addr) (c' : Nat), l.length + m ≤ 4 ∧ v = .slice p' (l ++ List.replicate m 0).length c' ∧ wr.ownsRow wA.heap.size 3 1 (.slice p' (l ++ List.replicate m 0).length c') (l ++ List.replicate m 0).length (ints (l ++ List.replicate m 0)) ∧ BK wA wr) (fun v _ => 4 - slL v)
        case atStart => exact ⟨0, p4, c4, by have := HL4.out; omega, by simp, by simpa using O4.out, K4.out⟩
        case round =>
        obtain ⟨m, p', c', hm, rfl, hown, hkw⟩ := hrel
        have HO := Lib.hid hown
        have HK := Lib.hid hkw
        have hlen : (l ++ List.replicate m 0).length = l.length + m := by simp
        have hnx : l ++ List.replicate (m + 1) 0 = (l ++ List.replicate m 0) ++ [0] := by rw [List.replicate_succ', List.append_assoc]
        clear hown hkw
        generalize hA : l ++ List.replicate m 0 = A at HO hlen hnx ⊢
        have HLEN := Lib.hid hlen
        have HNX := Lib.hid hnx
        have HAA := Lib.hid hA
        clear hA hlen hnx
        by_cases hlt : A.length < 4
        · go_wp2_with (at_builtin; go_must (refine wpI rfl (.tmp 73) (.tmp 74) rfl wA.heap.size (.slice p' A.length c') A rfl (own_below HO.out (bk_alloc (BK.refl wr) _)) (some ⟨wr.heap.size, 0, none⟩) 1 [0] rfl ?c1 ?c2 ?c3 ?_))
          case c1 => exact RO.own (own_one wr wr.heap.size (Nat.le_refl _) 0)
          case c2 => show A.length + 1 ≤ 1000000; omega
          case c3 => have := bk_size HK.out; rw [sz1]; omega
          intro p5 c5 w5 ho hg
          have HO5 := Lib.hid ho
          have HK5 := Lib.hid (bk_grownI (bk_tr HK.out (bk_alloc (BK.refl wr) (.cells #[.int .i64 0] 3))) (own_below HO.out (bk_alloc (BK.refl wr) (.cells #[.int .i64 0] 3))) (Nat.le_refl _) hg)
          clear ho hg
          go_wp2_with fail
          go_roundw
          case rel => exact ⟨m + 1, p5, c5, by have := HLEN.out; omega, by rw [HNX.out, List.length_append]; rfl, by rw [HNX.out, List.length_append]; exact HO5.out, HK5.out⟩
          case measure => simp [slL]; omega
        · have h4 : A.length = 4 := by have := HLEN.out; omega
          obtain ⟨a0, a1, a2, a3, hA4⟩ : ∃ a0 a1 a2 a3, A = [a0, a1, a2, a3] := by
            match A, h4 with
            | [a0, a1, a2, a3], _ => exact ⟨a0, a1, a2, a3, rfl⟩
          subst hA4
          have HQ := Lib.hid (HIN.out.trans (insG_ok (op := (op : Int)) (x := x) HRO.out HLN.out HAA.out))
          have RR := RO.own HO.out
          obtain ⟨g, o9, rfl, r0⟩ := RR.get 0 (by simp)
          obtain ⟨g1, o1, e1, r1⟩ := RR.get 1 (by simp)
          obtain ⟨g2, o2, e2, r2⟩ := RR.get 2 (by simp)
          obtain ⟨g3, o3, e3, r3⟩ := RR.get 3 (by simp)
          simp only [Option.some.injEq, Addr.mk.injEq] at e1 e2 e3
          obtain ⟨rfl, rfl, _⟩ := e1
          obtain ⟨rfl, rfl, _⟩ := e2
          obtain ⟨rfl, rfl, _⟩ := e3
          simp only [Nat.add_zero, List.getElem_cons_zero, List.getElem_cons_succ] at r0 r1 r2 r3
          have HNE := Lib.hid (show n7 ≠ g from by have := HO.out.lt g rfl; have := H70.out; omega)
          have H7 := Lib.hid (B7.out.keep HK.out)
          have H0 := Lib.hid (B0.out.keep HK.out)
          have K7 := Lib.hid (bk_tr K8.out HK.out)
          clear RR HAA HNX HLEN hlt h4
          go_upto_region 23 with fail
          obtain ⟨y0, y1, y2, y3, y4, y5⟩ := H7.out.x
          have f1 := H7.out.fr 1
          go_upto_region 24 with fail
          have H7' := Lib.hid (H7.out.setd a0)
          have H0' := Lib.hid (H0.out.st (st_set _ n7 1 (.int .i64 a0)) (fun e => by have := H07.out; have e : n0 = n7 := e; omega))
          have K7' := Lib.hid (bk_set K7.out ⟨n7, 1, none⟩ (.int .i64 a0) HW7.out)
          have r1' := (World.cell?_setCell_far _ ⟨n7, 1, none⟩ _ (.int .i64 a0) HNE.out).trans r1
          have r2' := (World.cell?_setCell_far _ ⟨n7, 1, none⟩ _ (.int .i64 a0) HNE.out).trans r2
          have r3' := (World.cell?_setCell_far _ ⟨n7, 1, none⟩ _ (.int .i64 a0) HNE.out).trans r3
          clear H7 H0 K7 y0 y1 y2 y3 y4 y5 f1 r0 r1 r2 r3
          generalize World.setCell _ ⟨n7, 1, none⟩ _ = wz at H7' H0' K7' r1' r2' r3' ⊢
          have H7 := H7'
          have H0 := H0'
          have K7 := K7'
          have r1 := r1'
          have r2 := r2'
          have r3 := r3'
          clear H7' H0' K7' r1' r2' r3'
          dsimp only at H7
          obtain ⟨y0, y1, y2, y3, y4, y5⟩ := H7.out.x
          have f2 := H7.out.fr 2
          go_upto_region 25 with fail
          have H7' := Lib.hid (H7.out.seta a1)
          have H0' := Lib.hid (H0.out.st (st_set _ n7 2 (.int .i64 a1)) (fun e => by have := H07.out; have e : n0 = n7 := e; omega))
          have K7' := Lib.hid (bk_set K7.out ⟨n7, 2, none⟩ (.int .i64 a1) HW7.out)
          have r2' := (World.cell?_setCell_far _ ⟨n7, 2, none⟩ _ (.int .i64 a1) HNE.out).trans r2
          have r3' := (World.cell?_setCell_far _ ⟨n7, 2, none⟩ _ (.int .i64 a1) HNE.out).trans r3
          clear H7 H0 K7 y0 y1 y2 y3 y4 y5 f2 r1 r2 r3
          generalize World.setCell _ ⟨n7, 2, none⟩ _ = wz at H7' H0' K7' r2' r3' ⊢
          have H7 := H7'
          have H0 := H0'
          have K7 := K7'
          have r2 := r2'
          have r3 := r3'
          clear H7' H0' K7' r2' r3'
          dsimp only at H7
          obtain ⟨y0, y1, y2, y3, y4, y5⟩ := H7.out.x
          have f3 := H7.out.fr 3
          go_upto_region 26 with fail
          have H7' := Lib.hid (H7.out.setb a2)
          have H0' := Lib.hid (H0.out.st (st_set _ n7 3 (.int .i64 a2)) (fun e => by have := H07.out; have e : n0 = n7 := e; omega))
          have K7' := Lib.hid (bk_set K7.out ⟨n7, 3, none⟩ (.int .i64 a2) HW7.out)
          have r3' := (World.cell?_setCell_far _ ⟨n7, 3, none⟩ _ (.int .i64 a2) HNE.out).trans r3
          clear H7 H0 K7 y0 y1 y2 y3 y4 y5 f3 r2 r3
          generalize World.setCell _ ⟨n7, 3, none⟩ _ = wz at H7' H0' K7' r3' ⊢
          have H7 := H7'
          have H0 := H0'
          have K7 := K7'
          have r3 := r3'
          clear H7' H0' K7' r3'
          dsimp only at H7
          obtain ⟨y0, y1, y2, y3, y4, y5⟩ := H7.out.x
          have f4 := H7.out.fr 4
          go_upto_region 27 with fail
          have H7' := Lib.hid (H7.out.setc a3)
          have H0' := Lib.hid (H0.out.st (st_set _ n7 4 (.int .i64 a3)) (fun e => by have := H07.out; have e : n0 = n7 := e; omega))
          have K7' := Lib.hid (bk_set K7.out ⟨n7, 4, none⟩ (.int .i64 a3) HW7.out)
          clear H7 H0 K7 y0 y1 y2 y3 y4 y5 f4 r3
          generalize World.setCell _ ⟨n7, 4, none⟩ _ = wz at H7' H0' K7'  ⊢
          have H7 := H7'
          have H0 := H0'
          have K7 := K7'
          clear H7' H0' K7' 
          dsimp only at H7
          obtain ⟨y0, y1, y2, y3, y4, y5⟩ := H7.out.x
          obtain ⟨z0, z1, z2, z3, z4, z5⟩ := H0.out.x
          have f0 := H0.out.fr 0
          have f1 := H0.out.fr 1
          have f2 := H0.out.fr 2
          have f3 := H0.out.fr 3
          have f4 := H0.out.fr 4
          have f5 := H0.out.fr 5
          have E := Lib.hid (sxA H0.out K7.out HG.out ⟨(op : Int), a0, a1, a2, a3, x⟩)
          have hne : ¬ n0 = n7 := by have := H07.out; omega
          have hne' : ¬ n7 = n0 := by have := H07.out; omega
          unfold six at E
          unfold i0 at z0 z1 z2 z3 z4 z5
          dsimp only at y0 y1 y2 y3 y4 y5 z0 z1 z2 z3 z4 z5 E
          go_wp2_with fail
          generalize hZ : World.setCell _ ⟨n0, 5, none⟩ _ = Z at E ⊢
          clear hZ z0 z1 z2 z3 z4 z5 f0 f1 f2 f3 f4 f5 y0 y1 y2 y3 y4 y5
          obtain ⟨z0, z1, z2, z3, z4, z5⟩ := E.out.1.x
          refine bodyPost_ret (v := .tuple #[.agg #[.int .i64 (op : Int), .int .i64 a0, .int .i64 a1, .int .i64 a2, .int .i64 a3, .int .u64 x], .bool true]) (by simp [results, Tryz.results59, go_sem, z0, z1, z2, z3, z4, z5]) rfl ?_
          exact iop_yes HQ.out E.out.2
      · have el : ((l.length : Int) != need (op : Int)) = true := by simpa using hln
        have HQ : Hid (insO (nm :: rest) = none) := Lib.hid (HIN.out.trans (by unfold insG; rw [HRO.out]; dsimp only; rw [if_neg hln]))
        have HB9 := B0.out.keep K4.out
        have K9 := Lib.hid (bk_tr K8.out K4.out)
        clear hln
        obtain ⟨z0, z1, z2, z3, z4, z5⟩ := HB9.x
        have f0 := HB9.fr 0
        have f1 := HB9.fr 1
        have f2 := HB9.fr 2
        have f3 := HB9.fr 3
        have f4 := HB9.fr 4
        have f5 := HB9.fr 5
        have E := Lib.hid (sxA HB9 K9.out HG.out i0)
        unfold six i0 at E
        clear HB9
        unfold i0 at z0 z1 z2 z3 z4 z5
        dsimp only at z0 z1 z2 z3 z4 z5 E
        go_wp2_with fail
        generalize hZ : World.setCell _ ⟨n0, 5, none⟩ _ = Z at E ⊢
        clear hZ z0 z1 z2 z3 z4 z5 f0 f1 f2 f3 f4 f5
        obtain ⟨z0, z1, z2, z3, z4, z5⟩ := E.out.1.x
        refine bodyPost_ret (v := .tuple #[.agg #[.int .i64 0, .int .i64 0, .int .i64 0, .int .i64 0, .int .i64 0, .int .u64 0], .bool false]) (by simp [results, Tryz.results59, go_sem, z0, z1, z2, z3, z4, z5]) rfl ?_
        exact iop_no HQ.out E.out.2
end
/-! part YF -/
section
open Go.RowKit Go.Shelf
theorem RL.take {w : World} {p : Option Addr} {c : Nat} {l m : List (List UInt8)} (h : RL w p c (l ++ m)) : RL w p c l := by
  have hle := h.le
  rw [List.length_append] at hle
  refine ⟨h.nl, by omega, fun k hk => ?_⟩
  obtain ⟨b, o, e, hc⟩ := h.get k (by rw [List.length_append]; omega)
  exact ⟨b, o, e, by rw [List.getElem_append_left hk] at hc; exact hc⟩
theorem ri_new (w : World) (i : I6) : RI (w.alloc (.cells #[.int .i64 i.op, .int .i64 i.dst, .int .i64 i.a, .int .i64 i.b, .int .i64 i.c, .int .u64 i.imm] 42)) (some ⟨w.heap.size, 0, none⟩) 1 [i] := by
  refine ⟨fun h => (by cases h), Nat.le_refl _, fun k hk => ⟨_, _, rfl, ?_⟩⟩
  have hk : k = 0 := by simpa using hk
  subst hk
  exact x6_new w i 42
theorem wpJ {ops : Array Oper} {rest : List Oper} {o : Oper} {a : Act} {w : World} {Q : Exit → Act → World → Prop} (hgd : o.guard = none) (s x : Operand)
    (ho : o.op = .call { callee := .builtin .append, args := #[s, x], argTypes := #[31, 31] }) (base : Nat) (v : Value) (xs : List I6) (hs : a.eval s = v) (hown : w.ownsRow base 42 6 v xs.length (flat6 xs))
    (p : Option Addr) (c : Nat) (ys : List I6) (hx : a.eval x = .slice p ys.length c) (hri : RI w p c ys) (hsm : xs.length + ys.length ≤ 1000000) (hbase : base ≤ w.heap.size)
    (h : ∀ p' c' w', w'.ownsRow base 42 6 (.slice p' (xs.length + ys.length) c') (xs ++ ys).length (flat6 (xs ++ ys)) → w.grownBy w' v.ownBlock ∨ w' = w → wpList Tryz.prog ops Q rest (a.put o.dst (.slice p' (xs.length + ys.length) c')) w') : wpList Tryz.prog ops Q (o :: rest) a w := by
  obtain ⟨i0, hi, hz0, hz1, hz2⟩ := info_parts info42
  cases p with
  | none =>
    have hc := hri.nl rfl
    have hle := hri.le
    obtain rfl := List.eq_nil_of_length_eq_zero (show ys.length = 0 by omega)
    subst hc
    obtain ⟨p', c', rfl⟩ := own_shape hown
    exact wpList_append_own_none hgd s x 31 ho base 42 i0 6 Tryz.underlying31 hi _ xs.length (flat6 xs) hs hown hx (h p' c' w (by simpa using hown) (.inr rfl))
  | some ad =>
    refine wpList_append_own w hgd s x 31 ho base 42 i0 _ 6 48 Tryz.underlying31 hi hz0 hz1 hz2 rfl (by decide) v xs.length (flat6 xs) hs hown ad ys.length c (flat6 ys) hx (flat6_len ys) (ri_src hri ad rfl) (flat6_one ys) (by unfold maxLen; omega) (by omega) hbase ?_
    intro v' w' hown' hgrow _
    obtain ⟨p', c', rfl⟩ := own_shape hown'
    exact h p' c' w' (by rw [List.length_append, flat6_app]; exact hown') (.inl hgrow)
theorem bk_grownJ {w0 w w' : World} {v : Value} {B n : Nat} {xs : List Value} (hb : BK w0 w) (ho : w.ownsRow B 42 6 v n xs) (hB : w0.heap.size ≤ B) (h : w.grownBy w' v.ownBlock ∨ w' = w) : BK w0 w' := by
  rcases h with h | rfl
  · exact Below.grown hb h hb.bl.size (fun j hj => Nat.le_trans hB (ho.lt j hj).1)
  · exact hb
/-- the result's box, the program's box, the lines, the instructions so far -/
structure PM (w wr : World) (N n2 n9 : Nat) (p : Option Addr) (c : Nat) (L : List (List UInt8)) (W R : Int) (vi : Value) (acc : List I6) : Prop where
  box : C4 wr n2 0 0 (.slice none 0 0) (.slice none 0 0)
  cod : C4 wr n9 W R vi (.slice none 0 0)
  rl : RL wr p c L
  own : wr.ownsRow N 42 6 vi acc.length (flat6 acc)
  bk : BK w wr
  sz : N ≤ wr.heap.size
theorem PM.keep {w wr w' : World} {N n2 n9 c : Nat} {p : Option Addr} {L : List (List UInt8)} {W R : Int} {vi : Value} {acc : List I6} (h : PM w wr N n2 n9 p c L W R vi acc) (hb : BK wr w') : PM w w' N n2 n9 p c L W R vi acc :=
  ⟨h.box.keep hb, h.cod.keep hb, h.rl.keep hb, own_below h.own hb, bk_tr h.bk hb, Nat.le_trans h.sz (bk_size hb)⟩
/-- the row has grown and is stored -/
theorem PM.put {w wr w' : World} {N n2 n9 c : Nat} {p : Option Addr} {L : List (List UInt8)} {W R : Int} {vi vi' : Value} {acc acc' : List I6} (h : PM w wr N n2 n9 p c L W R vi acc) (hg : wr.grownBy w' vi.ownBlock ∨ w' = wr) (ho : w'.ownsRow N 42 6 vi' acc'.length (flat6 acc'))
    (h29 : n2 < n9) (h9 : n9 < N) (hw2 : w.heap.size ≤ n2) (hp : ∀ b o, p = some ⟨b, o, none⟩ → b < n9) : PM w (w'.setCell ⟨n9, 2, none⟩ vi') N n2 n9 p c L W R vi' acc' := by
  have hs : St (fun k => vi.ownBlock = some k) wr w' := by
    rcases hg with hg | rfl
    · exact st_grow hg
    · exact St.refl _ _
  have hv : ∀ k, vi.ownBlock = some k → N ≤ k := fun k hk => (h.own.lt k hk).1
  have hN := h.sz
  have c1 := (h.cod.st hs (fun e => by have := hv _ e; omega)).set2 vi'
  have b1 := h.box.st hs (fun e => by have := hv _ e; omega)
  have s2 := st_set w' n9 2 vi'
  have k1 : BK w w' := bk_st h.bk hs (fun k e => by have := hv _ e; omega)
  refine ⟨b1.st s2 (fun e => by have e : n2 = n9 := e; omega), c1, ?_, own_set ho ⟨n9, 2, none⟩ vi' h9, bk_set k1 ⟨n9, 2, none⟩ vi' (by show w.heap.size ≤ n9; omega), Nat.le_trans hN (Nat.le_trans hs.size s2.size)⟩
  have l1 : RL w' p c L := ⟨h.rl.nl, h.rl.le, fun k hk => by
    obtain ⟨b, o, e, hc⟩ := h.rl.get k hk
    refine ⟨b, o, e, ?_⟩
    have hb9 := hp b o e
    have hbk := hs.block b (by omega) (fun e2 => by have := hv _ e2; omega)
    exact (cell_at hbk).trans hc⟩
  exact l1.far (n := n9) 2 vi' (fun b o e => by have := hp b o e; omega)
theorem PM.mid {w wr w' : World} {N n2 n9 c : Nat} {p : Option Addr} {L : List (List UInt8)} {W R : Int} {vi : Value} {acc : List I6} (h : PM w wr N n2 n9 p c L W R vi acc) (hg : wr.grownBy w' vi.ownBlock ∨ w' = wr) (h9 : n9 < N) : C4 w' n9 W R vi (.slice none 0 0) := by
  have hs : St (fun k => vi.ownBlock = some k) wr w' := by
    rcases hg with hg | rfl
    · exact st_grow hg
    · exact St.refl _ _
  have hv : ∀ k, vi.ownBlock = some k → N ≤ k := fun k hk => (h.own.lt k hk).1
  exact h.cod.st hs (fun e => by have := hv _ e; omega)
/-! what is read -/
theorem lns_last {l : List UInt8} {Q : List (List UInt8)} {z : List UInt8} (h : spc 10 l = Q ++ [z]) : lns l = if z = [] then Q else Q ++ [z] := by
  rw [lns_spc, h]
  simp
def outR (acc : List I6) (ln : Nat) (rem : List (List UInt8)) (o : Option (List Int)) : PR := match o with
  | none => .bad (ln + 1)
  | some out => match rem with
    | [] => .ok acc out
    | _ :: _ => .bad (ln + 2)
theorem body_out {x : List UInt8} {r : List (List UInt8)} {ln : Nat} {acc : List I6} (h : (sp x).headD [] = outL) : bodyP ln acc (x :: r) = outR acc ln r (regsO (sp x).tail) := by
  rw [bodyP, if_pos h]
  cases regsO (sp x).tail <;> cases r <;> rfl
theorem outR_more {acc : List I6} {ln : Nat} {rem : List (List UInt8)} {out : List Int} (h : 0 < rem.length) : outR acc ln rem (some out) = .bad (ln + 2) := by
  cases rem with
  | nil => simp at h
  | cons a b => rfl
theorem outR_end {acc : List I6} {ln : Nat} {rem : List (List UInt8)} {out : List Int} (h : rem.length = 0) : outR acc ln rem (some out) = .ok acc out := by
  cases rem with
  | nil => rfl
  | cons a b => simp at h
theorem body_ins {x : List UInt8} {r : List (List UInt8)} {ln : Nat} {acc : List I6} (h : ¬ (sp x).headD [] = outL) : bodyP ln acc (x :: r) = match insO (sp x) with | none => .bad (ln + 1) | some i => bodyP (ln + 1) (acc ++ [i]) r := by
  rw [bodyP, if_neg h]
  cases insO (sp x) <;> rfl
def finC (W R : Int) : PR → PC
  | .bad n => .bad n
  | .ok ins out => .ok W R ins out
theorem prog_head {x : List UInt8} {r : List (List UInt8)} {W R : Int} (h : headO (sp x) = some (W, R)) : progP (x :: r) = finC W R (bodyP 1 [] r) := by
  unfold progP; simp only [h]
  cases bodyP 1 [] r <;> rfl
theorem prog_bad {x : List UInt8} {r : List (List UInt8)} (h : headO (sp x) = none) : progP (x :: r) = .bad 1 := by
  unfold progP; simp only [h]
end
/-! part YG -/
section
open Go.RowKit Go.Shelf
theorem split_nl (s : ByteArray) (hs : s.size ≤ 1000000) (w : World) : Calls Tryz.prog 57 #[.string s, .int .u8 10] w (FP w (spc 10 (bl s))) := split57 s hs 10 w
set_option maxRecDepth 100000 in
set_option maxHeartbeats 4000000 in
theorem parse38 (s : ByteArray) (hs : s.size ≤ 100000) (w : World) : Calls Tryz.prog 38 #[.string s] w (RCP w (parseT (bl s))) := by
  have k0 := bk_alloc (BK.refl w) (.cells #[.int .i64 0, .int .i64 0, .slice none 0 0, .slice none 0 0] 34)
  have B0 : C4 (w.alloc (.cells #[.int .i64 0, .int .i64 0, .slice none 0 0, .slice none 0 0] 34)) w.heap.size 0 0 (.slice none 0 0) (.slice none 0 0) := heap_alloc_new w (.cells #[.int .i64 0, .int .i64 0, .slice none 0 0, .slice none 0 0] 34)
  have HG := Lib.hid (Nat.le_refl w.heap.size)
  by_cases h : 65536 < s.size
  · have HQ := Lib.hid (parseT_long h)
    have hi : (65536 : Int) < (s.size : Int) := by omega
    clear h
    go_enter Tryz.func38, Tryz.ntmps38
    go_upto_region 1 with (fail)
    generalize w.alloc (.cells #[.int .i64 0, .int .i64 0, .slice none 0 0, .slice none 0 0] 34) = w0 at k0 B0 ⊢
    generalize hn2 : w.heap.size = n2 at B0 HG ⊢
    have HG := Lib.hid (show w.heap.size ≤ n2 from by omega)
    clear hn2
    have HBX := B0
    have KBX := k0
    obtain ⟨c0, c1, c2, c3⟩ := HBX.b4
    have f0 := HBX.fr 0
    have f1 := HBX.fr 1
    have f2 := HBX.fr 2
    have f3 := HBX.fr 3
    have E := Lib.hid (cod_all HBX KBX HG.out 0 0 (.slice none 0 0) (.slice none 0 0))
    unfold cod at E
    clear HBX KBX
    go_wp2_with fail
    generalize hZ : World.setCell _ ⟨n2, 3, none⟩ _ = Z at E ⊢
    clear hZ c0 c1 c2 c3 f0 f1 f2 f3
    obtain ⟨c0, c1, c2, c3⟩ := E.out.1.b4
    refine bodyPost_ret (v := .tuple #[.agg #[.int .i64 0, .int .i64 0, .slice none 0 0, .slice none 0 0], .int .i64 0, .int .i64 7]) (by simp [results, Tryz.results38, go_sem, c0, c1, c2, c3]) rfl ?_
    rw [HQ.out]
    exact ⟨none, none, 0, 0, rfl, ri_nil _, ro_nil _, E.out.2.1⟩
  · have hi : ¬ (65536 : Int) < (s.size : Int) := by omega
    have h6 : s.size ≤ 65536 := by omega
    have HBAD := Lib.hid (fun n => parseT_bad h6 (n := n))
    have HOK := Lib.hid (fun W R ins out => parseT_ok h6 (W := W) (R := R) (ins := ins) (out := out))
    have S10 := Lib.hid (fun w => split_nl s (by omega) w)
    have HME := Lib.hid (fun (x : List UInt8) (h : x ∈ spc 10 (bl s)) => (Nat.le_trans (spc_mem 10 _ x h) (by rw [bl_len]; omega) : x.length ≤ 65536))
    have HLE := Lib.hid (show (spc 10 (bl s)).length ≤ 65537 from by have := spc_len 10 (bl s); rw [bl_len] at this; omega)
    have HLA := Lib.hid (fun Q z => lns_last (l := bl s) (Q := Q) (z := z))
    have hne := spc_ne 10 (bl s)
    generalize parseT (bl s) = o at HBAD HOK ⊢
    generalize lns (bl s) = L at HBAD HOK HLA
    generalize spc 10 (bl s) = P at S10 HME HLE HLA hne
    obtain ⟨Q, z, rfl⟩ : ∃ Q z, P = Q ++ [z] := ⟨P.dropLast, P.getLast hne, (List.dropLast_concat_getLast hne).symm⟩
    have HL := Lib.hid (HLA.out Q z rfl)
    clear h h6 hne hs HLA
    go_enter Tryz.func38, Tryz.ntmps38
    go_upto_region 1 with (fail)
    generalize w.alloc (.cells #[.int .i64 0, .int .i64 0, .slice none 0 0, .slice none 0 0] 34) = w0 at k0 B0 ⊢
    generalize hn2 : w.heap.size = n2 at B0 HG ⊢
    have HG := Lib.hid (show w.heap.size ≤ n2 from by omega)
    clear hn2
    have HB0 := Lib.hid B0
    have K0 := Lib.hid k0
    have H2 := Lib.hid (show n2 < w0.heap.size from (Array.getElem?_eq_some_iff.1 B0).1)
    clear k0 B0
    go_upto_region 4 with (go_at_call 57; refine (S10.out w0).mono ?_; rintro e w1 ⟨p, c, rfl, ho, hb⟩)
    have K1 := Lib.hid (bk_tr K0.out hb)
    have HB1 := Lib.hid (HB0.out.keep hb)
    have R1 := Lib.hid (RL.own ho)
    have H21 := Lib.hid (show n2 < w1.heap.size from Nat.lt_of_lt_of_le H2.out (bk_size hb))
    clear ho hb S10 HB0 H2
    obtain ⟨b, o', rfl, cz⟩ := R1.out.get Q.length (by simp)
    have HBB := Lib.hid (World.block_lt_of_cell? w1 _ cz)
    have czz : w1.cell? ⟨b, o' + Q.length, none⟩ = some (.string (sB z)) := by rw [cz]; simp
    have e0 := eqT z []
    have HLQ := Lib.hid (show (Q ++ [z]).length = Q.length + 1 from by simp)
    have HLE' := Lib.hid (show Q.length + 1 ≤ 65537 from by have := HLE.out; rw [HLQ.out] at this; exact this)
    have hqb := HLE'.out
    generalize sB z = sz at czz e0
    clear cz
    go_upto_region 4 with fail
    go_upto_if 29 with fail
    have HZL := Lib.hid (show (decide (z = []) = true → L = Q) ∧ (decide (z = []) = false → L = Q ++ [z]) from ⟨fun h => by rw [HL.out, if_pos (of_decide_eq_true h)], fun h => by rw [HL.out, if_neg (of_decide_eq_false h)]⟩)
    have hcb : Q.length + 1 ≤ c := by have := R1.out.le; rw [HLQ.out] at this; exact this
    generalize decide (z = []) = zb at HZL ⊢
    clear czz e0
    go_cut [5] (fun s5 wx => s5 = .slice (some ⟨b, o', none⟩) L.length c ∧ wx = w1)
    case first =>
      cases zb
      · have HLL := Lib.hid (show L.length = Q.length + 1 from by rw [HZL.out.2 (by trivial)]; simp)
        go_wp2_with fail
        go_meet
        exact ⟨by rw [HLL.out], rfl⟩
      · have HLL := Lib.hid (show L.length = Q.length from by rw [HZL.out.1 (by trivial)])
        go_wp2_with fail
        go_meet
        exact ⟨by rw [HLL.out], rfl⟩
    case rest =>
    obtain ⟨rfl, hwc⟩ := hcut
    subst hwc
    have RR := Lib.hid (show RL wc (some ⟨b, o', none⟩) c L from by
      cases hzb : zb
      · rw [HZL.out.2 hzb]; exact R1.out
      · rw [HZL.out.1 hzb]; exact R1.out.take)
    have HML := Lib.hid (show ∀ x ∈ L, x.length ≤ 65536 from by
      cases hzb : zb
      · rw [HZL.out.2 hzb]; exact HME.out
      · rw [HZL.out.1 hzb]; exact fun x hx => HME.out x (by simp [hx]))
    have HLN := Lib.hid (show L.length ≤ 65537 from by
      cases hzb : zb
      · rw [HZL.out.2 hzb, HLQ.out]; exact HLE'.out
      · rw [HZL.out.1 hzb]; have := HLE'.out; omega)
    clear R1 HME HLE HLE' HLQ HZL HL hqb hcb
    obtain ⟨wS, hwS⟩ : ∃ x, x = wc := ⟨_, rfl⟩
    subst hwS
    cases hLL : L with
    | nil =>
      have HQ : Hid (o = ⟨0, 0, [], [], 1, 6⟩) := Lib.hid (by rw [HBAD.out 1 (by rw [hLL]; rfl)]; rfl)
      have h0 : (((([] : List (List UInt8)).length : Nat) : Int) == 0) = true := rfl
      have HBX := HB1.out
      have KBX := K1.out
      obtain ⟨c0, c1, c2, c3⟩ := HBX.b4
      have f0 := HBX.fr 0
      have f1 := HBX.fr 1
      have f2 := HBX.fr 2
      have f3 := HBX.fr 3
      have E := Lib.hid (cod_all HBX KBX HG.out 0 0 (.slice none 0 0) (.slice none 0 0))
      unfold cod at E
      clear HBX KBX
      go_wp2_with fail
      generalize hZ : World.setCell _ ⟨n2, 3, none⟩ _ = Z at E ⊢
      clear hZ c0 c1 c2 c3 f0 f1 f2 f3
      obtain ⟨c0, c1, c2, c3⟩ := E.out.1.b4
      refine bodyPost_ret (v := .tuple #[.agg #[.int .i64 0, .int .i64 0, .slice none 0 0, .slice none 0 0], .int .i64 1, .int .i64 6]) (by simp [results, Tryz.results38, go_sem, c0, c1, c2, c3]) rfl ?_
      rw [HQ.out]
      exact ⟨none, none, 0, 0, rfl, ri_nil _, ro_nil _, E.out.2.1⟩
    | cons x r =>
      rw [hLL] at RR HML HLN HBAD HOK
      obtain ⟨b', o2, e', cx⟩ := RR.out.get 0 (by simp)
      simp only [Option.some.injEq, Addr.mk.injEq] at e'
      obtain ⟨rfl, rfl, _⟩ := e'
      simp only [Nat.add_zero, List.getElem_cons_zero] at cx
      have HD := Lib.hid (fun W => head58 (sB x) (by have := HML.out x (by simp); rw [sB_sz]; omega) W)
      rw [show bl (sB x) = x from rfl] at HD
      have HLC := Lib.hid (show (x :: r).length = r.length + 1 from rfl)
      generalize sB x = sx at cx HD
      have HLB := HLN.out
      cases hho : headO (sp x) with
      | none =>
        rw [hho] at HD
        have HQ : Hid (o = ⟨0, 0, [], [], 1, 6⟩) := Lib.hid (by rw [HBAD.out 1 (prog_bad hho)]; rfl)
        have HD2 : Hid (∀ W, Calls Tryz.prog 58 #[.string sx] W fun e w' => ∃ a b : Int, e = .returned (.tuple #[.int .i64 a, .int .i64 b, .bool false]) ∧ BK W w') := Lib.hid HD.out
        clear HD hho
        go_upto_region 9 with (go_at_call 58; refine (HD2.out _).mono ?_; rintro e w4 ⟨x1, x2, rfl, h4⟩)
        clear cx
        have HBX := HB1.out.keep h4
        have KBX := bk_tr K1.out h4
        obtain ⟨c0, c1, c2, c3⟩ := HBX.b4
        have f0 := HBX.fr 0
        have f1 := HBX.fr 1
        have f2 := HBX.fr 2
        have f3 := HBX.fr 3
        have E := Lib.hid (cod_all HBX KBX HG.out 0 0 (.slice none 0 0) (.slice none 0 0))
        unfold cod at E
        clear HBX KBX
        go_wp2_with fail
        generalize hZ : World.setCell _ ⟨n2, 3, none⟩ _ = Z at E ⊢
        clear hZ c0 c1 c2 c3 f0 f1 f2 f3
        obtain ⟨c0, c1, c2, c3⟩ := E.out.1.b4
        refine bodyPost_ret (v := .tuple #[.agg #[.int .i64 0, .int .i64 0, .slice none 0 0, .slice none 0 0], .int .i64 1, .int .i64 6]) (by simp [results, Tryz.results38, go_sem, c0, c1, c2, c3]) rfl ?_
        rw [HQ.out]
        exact ⟨none, none, 0, 0, rfl, ri_nil _, ro_nil _, E.out.2.1⟩
      | some WR =>
        obtain ⟨W, R⟩ := WR
        rw [hho] at HD
        have HPH := Lib.hid (prog_head (r := r) hho)
        have HD2 : Hid (∀ W', Calls Tryz.prog 58 #[.string sx] W' fun e w' => e = .returned (.tuple #[.int .i64 W, .int .i64 R, .bool true]) ∧ BK W' w') := Lib.hid HD.out
        clear HD hho
        go_upto_region 12 with (go_at_call 58; refine (HD2.out _).mono ?_; rintro e w4 ⟨rfl, h4⟩)
        have hxx := (Array.getElem?_eq_some_iff.1 (HB1.out.keep h4)).1
        have ka := bk_alloc (BK.refl w4) (.cells #[.int .i64 W, .int .i64 R, .slice none 0 0, .slice none 0 0] 34)
        have PM0 : PM w (w4.alloc (.cells #[.int .i64 W, .int .i64 R, .slice none 0 0, .slice none 0 0] 34)) (w4.alloc (.cells #[.int .i64 W, .int .i64 R, .slice none 0 0, .slice none 0 0] 34)).heap.size n2 w4.heap.size (some ⟨b, o', none⟩) c (x :: r) W R (.slice none 0 0) [] :=
          ⟨(HB1.out.keep h4).keep ka, heap_alloc_new w4 _, (RR.out.keep h4).keep ka, World.ownsRow_nil _ _ _ _, bk_tr (bk_tr K1.out h4) ka, Nat.le_refl _⟩
        have H29 := Lib.hid (show n2 < w4.heap.size from hxx)
        have H9N := Lib.hid (show w4.heap.size < (w4.alloc (.cells #[.int .i64 W, .int .i64 R, .slice none 0 0, .slice none 0 0] 34)).heap.size from by rw [sz1]; omega)
        have HB9 := Lib.hid (show b < w4.heap.size from Nat.lt_of_lt_of_le HBB.out (by have := bk_size h4; exact Nat.le_trans (bk_size (BK.refl _)) this))
        have HP0 := Lib.hid PM0
        clear hxx ka PM0 h4 HB1 RR cx HD2
        generalize (w4.alloc (.cells #[.int .i64 W, .int .i64 R, .slice none 0 0, .slice none 0 0] 34)).heap.size = N at HP0 H9N
        generalize w4.alloc (.cells #[.int .i64 W, .int .i64 R, .slice none 0 0, .slice none 0 0] 34) = wH at HP0 ⊢
        generalize w4.heap.size = n9 at HP0 H29 H9N HB9 ⊢
        have HPL := Lib.hid (fun b1 o1 (e : some (⟨b, o', none⟩ : Addr) = some ⟨b1, o1, none⟩) => (by simp only [Option.some.injEq, Addr.mk.injEq] at e; have := HB9.out; omega : b1 < n9))
        have HPH2 := Lib.hid (show progP (x :: r) = finC W R (bodyP 1 [] ((x :: r).drop 1)) ∧ 1 ≤ (x :: r).length ∧ (x :: r).length ≤ 65537 from ⟨HPH.out, by simp, HLN.out⟩)
        have HM3 : Hid (∀ y ∈ x :: r, y.length ≤ 65536) := Lib.hid HML.out
        clear HML HLN hLL HPH
        generalize hL2 : x :: r = L2 at HPH2 HP0 HM3 HBAD HOK HLC
        have hnl : L2.length = r.length + 1 := HLC.out
        clear hL2 HLC
        generalize r.length + 1 = nL at hnl HLB ⊢
        subst hnl
        go_wp2_with fail
        go_loopw [10, 11, 12] (fun a _ _ wr => ∃ (ln : Nat) (acc : List I6) (vi : Value), a = .int .i64 (ln : Int) ∧ 1 ≤ ln ∧ ln ≤ L2.length ∧ acc.length ≤ ln ∧ PM w wr N n2 n9 (some ⟨b, o', none⟩) c L2 W R vi acc ∧ Hid (progP L2 = finC W R (bodyP ln acc (L2.drop ln))) ∧ Hid (∀ i ∈ acc, I64 i)) (fun a _ _ _ => L2.length - (intOf a).toNat)
        case atStart => exact ⟨1, [], .slice none 0 0, rfl, Nat.le_refl _, HPH2.out.2.1, Nat.zero_le _, HP0.out, Lib.hid HPH2.out.1, Lib.hid (fun i hi => by cases hi)⟩
        case round =>
        obtain ⟨ln, acc, vi, rfl, hl1, hl2, hal, hpm, hbd, hai⟩ := hrel
        have HP := Lib.hid hpm
        have HL3 := HPH2.out.2.2
        clear hpm
        by_cases hlt : ln < L2.length
        · obtain ⟨b9, o9, e9, cy⟩ := HP.out.rl.get ln hlt
          simp only [Option.some.injEq, Addr.mk.injEq] at e9
          obtain ⟨rfl, rfl, _⟩ := e9
          have HM4 := Lib.hid (HM3.out L2[ln] (List.getElem_mem hlt))
          have HDR := Lib.hid (show L2.drop ln = L2[ln] :: L2.drop (ln + 1) from List.drop_eq_getElem_cons hlt)
          have HDL := Lib.hid (show (L2.drop (ln + 1)).length = L2.length - (ln + 1) from List.length_drop)
          generalize L2[ln] = y at cy HM4 HDR
          have HB2 := Lib.hid (hbd.out.trans (by rw [HDR.out]))
          clear hbd HDR
          have HRM0 : ∃ rm, rm = L2.drop (ln + 1) := ⟨_, rfl⟩
          obtain ⟨rem, hrm⟩ := HRM0
          rw [← hrm] at HB2 HDL
          have HRM := Lib.hid hrm.symm
          clear hrm
          have HSP := Lib.hid (fun W => split_sp (sB y) (by have := HM4.out; rw [sB_sz]; omega) W)
          rw [show bl (sB y) = y from rfl] at HSP
          have HSM := Lib.hid (fun z (h : z ∈ sp y) => (Nat.le_trans (sp_mem h) (by have := HM4.out; omega) : z.length ≤ 100000))
          have HSL := Lib.hid (show (sp y).length ≤ 100001 from by have := sp_len y; have := HM4.out; omega)
          obtain ⟨h1, t1, hst⟩ : ∃ h t, sp y = h :: t := by
            cases h : sp y with
            | nil => exact absurd h (sp_ne _)
            | cons a b => exact ⟨a, b, rfl⟩
          have HST := Lib.hid hst
          rw [hst] at HSP HSM HSL
          clear hst
          have HIN := Lib.hid (fun W => ins59 (sB y) (by have := HM4.out; rw [sB_sz]; omega) W)
          rw [show bl (sB y) = y from rfl] at HIN
          generalize sB y = sy at cy HSP HIN
          have eh := eqT h1 [111, 117, 116]
          have hcn : decide ((ln : Int) < (L2.length : Int)) = true := by simp; omega
          generalize hsh : sB h1 = sh at eh
          by_cases hh : h1 = outL
          · rw [show decide (h1 = [111, 117, 116]) = true from decide_eq_true hh] at eh
            have HBO := Lib.hid (hh)
            clear hh
            have HB3 := Lib.hid (HB2.out.trans (congrArg _ (body_out (by rw [HST.out]; exact HBO.out))))
            rw [HST.out, List.tail_cons] at HB3
            have hne : ((ln : Int) == (L2.length : Int)) = false := by simp; omega
            go_upto_region 21 with (go_at_call 57; refine (HSP.out _).mono ?_; rintro e w5 ⟨p5, c5, rfl, ho5, h5⟩; obtain ⟨g5, o5, rfl, ch⟩ := (RL.own ho5).get 0 (by simp); simp only [Nat.add_zero, List.getElem_cons_zero, hsh] at ch)
            have HP5 := Lib.hid (HP.out.keep h5)
            have cy5 := (h5.bl.cell (p := ⟨b, o' + ln, none⟩) (World.block_lt_of_cell? wr _ cy)).trans cy
            clear ch h5 cy ho5
            have HSMt := Lib.hid (show ∀ z ∈ t1, z.length ≤ 100000 from fun z hz => HSM.out z (List.mem_cons_of_mem _ hz))
            have HSLt := Lib.hid (show t1.length ≤ 100000 from by have := HSL.out; simp only [List.length_cons] at this; omega)
            cases hrt : regsO t1 with
            | none =>
              have HQ : Hid (o = ⟨0, 0, [], [], (ln : Int) + 1, 6⟩) := Lib.hid (by rw [HBAD.out (ln + 1) (by rw [HB3.out, hrt]; rfl)]; rfl)
              have HG6 := Lib.hid (fun (W9 : World) (p9 : Option Addr) (c9 : Nat) (h9 : RL W9 p9 c9 t1) => (by have h := regs60 t1 p9 c9 W9 h9 HSMt.out (by have := HSLt.out; omega); rw [hrt] at h; exact h : Calls Tryz.prog 60 #[.slice p9 t1.length c9] W9 fun e w' => e = .returned (.tuple #[.slice none 0 0, .bool false]) ∧ BK W9 w'))
              clear hrt
              go_upto_region 22 with (first | (go_at_call 57; refine (HSP.out _).mono ?_; rintro e w6 ⟨p6, c6, rfl, ho6, h6⟩; obtain ⟨g6, o6, rfl, _⟩ := (RL.own ho6).get 0 (by simp)) | (go_at_call 60; have hT := (RL.own ho6).tail; generalize (if c6 = 1 then some (⟨g6, o6, none⟩ : Addr) else some ⟨g6, o6 + 1, none⟩) = q6 at hT ⊢; refine (HG6.out w6 _ _ hT).mono ?_; clear hT; rintro e w7 ⟨rfl, h7⟩))
              have HP7 := HP5.out.keep (bk_tr h6 h7)
              clear h6 h7 ho6 cy5
              have HBX := HP7.box
              have KBX := HP7.bk
              obtain ⟨c0, c1, c2, c3⟩ := HBX.b4
              have f0 := HBX.fr 0
              have f1 := HBX.fr 1
              have f2 := HBX.fr 2
              have f3 := HBX.fr 3
              have E := Lib.hid (cod_all HBX KBX HG.out 0 0 (.slice none 0 0) (.slice none 0 0))
              unfold cod at E
              clear HBX KBX
              go_wp2_with fail
              generalize hZ : World.setCell _ ⟨n2, 3, none⟩ _ = Z at E ⊢
              clear hZ c0 c1 c2 c3 f0 f1 f2 f3
              obtain ⟨c0, c1, c2, c3⟩ := E.out.1.b4
              refine bodyPost_ret (v := .tuple #[.agg #[.int .i64 0, .int .i64 0, .slice none 0 0, .slice none 0 0], .int .i64 ((ln : Int) + 1), .int .i64 6]) (by simp [results, Tryz.results38, go_sem, c0, c1, c2, c3]) rfl ?_
              rw [HQ.out]
              exact ⟨none, none, 0, 0, rfl, ri_nil _, ro_nil _, E.out.2.1⟩
            | some out =>
              have HRT := Lib.hid (regsO_in hrt)
              have HB4 := Lib.hid (show progP L2 = finC W R (outR acc ln rem (some out)) from by rw [HB3.out, hrt])
              have HG6 := Lib.hid (fun (W9 : World) (p9 : Option Addr) (c9 : Nat) (h9 : RL W9 p9 c9 t1) => (by have h := regs60 t1 p9 c9 W9 h9 HSMt.out (by have := HSLt.out; omega); rw [hrt] at h; exact h : Calls Tryz.prog 60 #[.slice p9 t1.length c9] W9 fun e w' => ∃ p c, e = .returned (.tuple #[.slice p out.length c, .bool true]) ∧ w'.ownsRow W9.heap.size 3 1 (.slice p out.length c) out.length (ints out) ∧ BK W9 w'))
              have HOL := Lib.hid (show out.length ≤ 100000 from by have h1 := HRT.out.2; have h2 := HSLt.out; rw [← h1, List.length_map] at h2; exact h2)
              clear hrt HB3
              go_upto_region 24 with (first | (go_at_call 57; refine (HSP.out _).mono ?_; rintro e w6 ⟨p6, c6, rfl, ho6, h6⟩; obtain ⟨g6, o6, rfl, _⟩ := (RL.own ho6).get 0 (by simp)) | (go_at_call 60; have hT := (RL.own ho6).tail; generalize (if c6 = 1 then some (⟨g6, o6, none⟩ : Addr) else some ⟨g6, o6 + 1, none⟩) = q6 at hT ⊢; refine (HG6.out w6 _ _ hT).mono ?_; clear hT; rintro e w7 ⟨p7, c7, rfl, ho7, h7⟩))
              have HP7 := Lib.hid (HP5.out.keep (bk_tr h6 h7))
              have hN6 : n9 < w6.heap.size := by have := (HP5.out.keep h6).sz; have := H9N.out; omega
              have HN6 := Lib.hid hN6
              have HO7 := Lib.hid ho7
              clear h6 h7 ho6 cy5 ho7 hN6
              obtain ⟨pv, cv, hvv⟩ := own_shape HP7.out.own
              subst hvv
              obtain ⟨c0, c1, c2, c3⟩ := HP7.out.cod.b4
              have f3 := HP7.out.cod.fr 3
              have C8 := Lib.hid (HP7.out.cod.set3 (.slice p7 out.length c7))
              have B8 := Lib.hid (HP7.out.box.st (st_set w7 n9 3 (.slice p7 out.length c7)) (fun e => by have := H29.out; have e : n2 = n9 := e; omega))
              have K8 := Lib.hid (bk_set HP7.out.bk ⟨n9, 3, none⟩ (.slice p7 out.length c7) (by have := H29.out; have := HG.out; show w.heap.size ≤ n9; omega))
              have I8 := Lib.hid (RI.own (own_set HP7.out.own ⟨n9, 3, none⟩ (.slice p7 out.length c7) H9N.out))
              have O8 := Lib.hid (own_set HO7.out ⟨n9, 3, none⟩ (.slice p7 out.length c7) HN6.out)
              go_upto_region 25 with fail
              clear c0 c1 c2 c3 f3 HP7 HO7 HP5
              generalize w7.setCell ⟨n9, 3, none⟩ (.slice p7 out.length c7) = w8 at C8 B8 K8 I8 O8 ⊢
              by_cases hl9 : ln + 1 < L2.length
              · have HQ : Hid (o = ⟨0, 0, [], [], (ln : Int) + 2, 6⟩) := Lib.hid (by
                  rw [HBAD.out (ln + 2) (by
                    rw [HB4.out]
                    rw [outR_more (by have := HDL.out; omega)]
                    rfl)]
                  rfl)
                have hcn9 : decide ((ln : Int) + 1 < (L2.length : Int)) = true := by simp; omega
                clear HB4
                have HBX := B8.out
                have KBX := K8.out
                obtain ⟨c0, c1, c2, c3⟩ := HBX.b4
                have f0 := HBX.fr 0
                have f1 := HBX.fr 1
                have f2 := HBX.fr 2
                have f3 := HBX.fr 3
                have E := Lib.hid (cod_all HBX KBX HG.out 0 0 (.slice none 0 0) (.slice none 0 0))
                unfold cod at E
                clear HBX KBX
                go_wp2_with fail
                generalize hZ : World.setCell _ ⟨n2, 3, none⟩ _ = Z at E ⊢
                clear hZ c0 c1 c2 c3 f0 f1 f2 f3
                obtain ⟨c0, c1, c2, c3⟩ := E.out.1.b4
                refine bodyPost_ret (v := .tuple #[.agg #[.int .i64 0, .int .i64 0, .slice none 0 0, .slice none 0 0], .int .i64 ((ln : Int) + 2), .int .i64 6]) (by simp [results, Tryz.results38, go_sem, c0, c1, c2, c3]) rfl ?_
                rw [HQ.out]
                exact ⟨none, none, 0, 0, rfl, ri_nil _, ro_nil _, E.out.2.1⟩
              · have HO9 := Lib.hid (HOK.out W R acc out (by
                  rw [HB4.out]
                  rw [outR_end (by have := HDL.out; omega)]
                  rfl))
                have hcn9 : decide ((ln : Int) + 1 < (L2.length : Int)) = false := by simp; omega
                have CK := Lib.hid (chk24 W R pv p7 cv c7 acc out w8 I8.out (RO.own O8.out) (by have := HOL.out; omega) (fun i hi => ⟨(hai.out i hi).m0, (hai.out i hi).m1⟩))
                have KB9 := Lib.hid (chkK_bd W R acc out (by omega))
                obtain ⟨c0, c1, c2, c3⟩ := C8.out.b4
                generalize chkE W R acc out = ye at HO9 CK
                generalize chkK W R acc out = xk at HO9 CK KB9
                clear HB4
                go_upto_region 28 with (go_at_call 24; refine CK.out.mono ?_; rintro e w10 ⟨rfl, h10⟩)
                have C10 := Lib.hid (C8.out.keep h10)
                have B10 := Lib.hid (B8.out.keep h10)
                have K10 := Lib.hid (bk_tr K8.out h10)
                have I10 := Lib.hid (I8.out.keep h10)
                have O10 := Lib.hid (own_below O8.out h10)
                clear c0 c1 c2 c3 h10 C8 B8 K8 I8 O8 CK
                by_cases hy : ye = 0
                · have HQ := Lib.hid (HO9.out.trans (if_pos hy))
                  subst hy
                  obtain ⟨d0, d1, d2, d3⟩ := C10.out.b4
                  obtain ⟨c0, c1, c2, c3⟩ := B10.out.b4
                  have f0 := B10.out.fr 0
                  have f1 := B10.out.fr 1
                  have f2 := B10.out.fr 2
                  have f3 := B10.out.fr 3
                  have E := Lib.hid (cod_all B10.out K10.out HG.out W R (.slice pv acc.length cv) (.slice p7 out.length c7))
                  have FI := Lib.hid (ri_st4 I10.out E.out.2.2 B10.out)
                  have FO := Lib.hid (ro_st4 (RO.own O10.out) E.out.2.2 (fun b1 o1 e => by
                    have h1 := O10.out.lt b1 (by rw [e]; rfl)
                    have := HN6.out; have := H29.out; omega))
                  unfold cod at E FI FO
                  have hne29 : ¬ n2 = n9 := by have := H29.out; omega
                  have hne92 : ¬ n9 = n2 := by have := H29.out; omega
                  go_wp2_with fail
                  generalize hZ : World.setCell _ ⟨n2, 3, none⟩ _ = Z at E FI FO ⊢
                  clear hZ c0 c1 c2 c3 f0 f1 f2 f3 d0 d1 d2 d3
                  obtain ⟨c0, c1, c2, c3⟩ := E.out.1.b4
                  refine bodyPost_ret (v := .tuple #[.agg #[.int .i64 W, .int .i64 R, .slice pv acc.length cv, .slice p7 out.length c7], .int .i64 0, .int .i64 0]) (by simp [results, Tryz.results38, go_sem, c0, c1, c2, c3]) rfl ?_
                  rw [HQ.out]
                  exact ⟨pv, p7, cv, c7, rfl, FI.out, FO.out, E.out.2.1⟩
                · have HQ := Lib.hid (HO9.out.trans (if_neg hy))
                  have hyn : (ye != 0) = true := by simpa using hy
                  have kb1 := KB9.out.1
                  have kb2 := KB9.out.2
                  have hmx : max (1 : Int) (xk + 2) = xk + 2 := by omega
                  clear hy
                  have HBX := B10.out
                  have KBX := K10.out
                  obtain ⟨c0, c1, c2, c3⟩ := HBX.b4
                  have f0 := HBX.fr 0
                  have f1 := HBX.fr 1
                  have f2 := HBX.fr 2
                  have f3 := HBX.fr 3
                  have E := Lib.hid (cod_all HBX KBX HG.out 0 0 (.slice none 0 0) (.slice none 0 0))
                  unfold cod at E
                  clear HBX KBX
                  go_wp2_with fail
                  generalize hZ : World.setCell _ ⟨n2, 3, none⟩ _ = Z at E ⊢
                  clear hZ c0 c1 c2 c3 f0 f1 f2 f3
                  obtain ⟨c0, c1, c2, c3⟩ := E.out.1.b4
                  refine bodyPost_ret (v := .tuple #[.agg #[.int .i64 0, .int .i64 0, .slice none 0 0, .slice none 0 0], .int .i64 (xk + 2), .int .i64 ye]) (by simp [results, Tryz.results38, go_sem, c0, c1, c2, c3]) rfl ?_
                  rw [HQ.out]
                  exact ⟨none, none, 0, 0, rfl, ri_nil _, ro_nil _, E.out.2.1⟩
          · rw [show decide (h1 = [111, 117, 116]) = false from decide_eq_false hh] at eh
            have HB3 := Lib.hid (HB2.out.trans (congrArg _ (body_ins (by rw [HST.out]; exact hh))))
            clear hh
            go_upto_region 14 with (go_at_call 57; refine (HSP.out _).mono ?_; rintro e w5 ⟨p5, c5, rfl, ho5, h5⟩; obtain ⟨g5, o5, rfl, ch⟩ := (RL.own ho5).get 0 (by simp); simp only [Nat.add_zero, List.getElem_cons_zero, hsh] at ch)
            have HP5 := Lib.hid (HP.out.keep h5)
            have cy5 := (h5.bl.cell (p := ⟨b, o' + ln, none⟩) (World.block_lt_of_cell? wr _ cy)).trans cy
            clear ch h5 cy ho5
            cases hio : insO (sp y) with
            | none =>
              rw [hio] at HIN
              have HQ : Hid (o = ⟨0, 0, [], [], (ln : Int) + 1, 6⟩) := Lib.hid (by rw [HBAD.out (ln + 1) (by rw [HB3.out, hio]; rfl)]; rfl)
              have HIN2 : Hid (∀ W, Calls Tryz.prog 59 #[.string sy] W fun e w' => e = .returned (.tuple #[av i0, .bool false]) ∧ BK W w') := Lib.hid HIN.out
              unfold av i0 at HIN2
              clear HIN hio
              go_upto_region 15 with (go_at_call 59; refine (HIN2.out _).mono ?_; rintro e w6 ⟨rfl, h6⟩)
              have HP6 := HP5.out.keep (bk_tr h6 (bk_alloc (BK.refl w6) (.cells #[.int .i64 0, .int .i64 0, .int .i64 0, .int .i64 0, .int .i64 0, .int .u64 0] 42)))
              clear h6 cy5
              have HBX := HP6.box
              have KBX := HP6.bk
              obtain ⟨c0, c1, c2, c3⟩ := HBX.b4
              have f0 := HBX.fr 0
              have f1 := HBX.fr 1
              have f2 := HBX.fr 2
              have f3 := HBX.fr 3
              have E := Lib.hid (cod_all HBX KBX HG.out 0 0 (.slice none 0 0) (.slice none 0 0))
              unfold cod at E
              clear HBX KBX
              go_wp2_with fail
              generalize hZ : World.setCell _ ⟨n2, 3, none⟩ _ = Z at E ⊢
              clear hZ c0 c1 c2 c3 f0 f1 f2 f3
              obtain ⟨c0, c1, c2, c3⟩ := E.out.1.b4
              refine bodyPost_ret (v := .tuple #[.agg #[.int .i64 0, .int .i64 0, .slice none 0 0, .slice none 0 0], .int .i64 ((ln : Int) + 1), .int .i64 6]) (by simp [results, Tryz.results38, go_sem, c0, c1, c2, c3]) rfl ?_
              rw [HQ.out]
              exact ⟨none, none, 0, 0, rfl, ri_nil _, ro_nil _, E.out.2.1⟩
            | some i =>
              rw [hio] at HIN
              have HI64 := Lib.hid (insO_W hio).2
              have HB4 := Lib.hid (show progP L2 = finC W R (bodyP (ln + 1) (acc ++ [i]) rem) from by rw [HB3.out, hio])
              have HIN2 : Hid (∀ W, Calls Tryz.prog 59 #[.string sy] W fun e w' => e = .returned (.tuple #[av i, .bool true]) ∧ BK W w') := Lib.hid HIN.out
              have HB4' := Lib.hid (show progP L2 = finC W R (bodyP (ln + 1) (acc ++ [i]) (L2.drop (ln + 1))) from by rw [HRM.out]; exact HB4.out)
              unfold av at HIN2
              clear HIN hio
              go_upto_region 17 with (go_at_call 59; refine (HIN2.out _).mono ?_; rintro e w6 ⟨rfl, h6⟩)
              have ka := bk_alloc (BK.refl w6) (.cells #[.int .i64 i.op, .int .i64 i.dst, .int .i64 i.a, .int .i64 i.b, .int .i64 i.c, .int .u64 i.imm] 42)
              have HP6 := Lib.hid (HP5.out.keep (bk_tr h6 ka))
              have hxi := x6_new w6 i 42
              clear h6 cy5 ka
              generalize w6.alloc (.cells #[.int .i64 i.op, .int .i64 i.dst, .int .i64 i.a, .int .i64 i.b, .int .i64 i.c, .int .u64 i.imm] 42) = w7 at HP6 hxi ⊢
              generalize w6.heap.size = n11 at hxi ⊢
              obtain ⟨y0, y1, y2, y3, y4, y5⟩ := hxi
              obtain ⟨pv, cv, hvv⟩ := own_shape HP6.out.own
              subst hvv
              obtain ⟨c0, c1, c2, c3⟩ := HP6.out.cod.b4
              go_wp2_with (at_builtin; go_must (refine wpJ rfl (.tmp 81) (.tmp 83) rfl N (.slice pv acc.length cv) acc rfl (own_below HP6.out.own (bk_alloc (BK.refl w7) _)) (some ⟨w7.heap.size, 0, none⟩) 1 [i] rfl ?c1 ?c2 ?c3 ?_))
              case c1 => exact ri_new w7 i
              case c2 => show acc.length + 1 ≤ 1000000; omega
              case c3 => have := HP6.out.sz; rw [sz1]; omega
              intro p9 c9 w9 ho9 hg9
              have HP7 := HP6.out.keep (bk_alloc (BK.refl w7) (.cells #[.int .i64 i.op, .int .i64 i.dst, .int .i64 i.a, .int .i64 i.b, .int .i64 i.c, .int .u64 i.imm] 42))
              have HMD := HP7.mid hg9 H9N.out
              have HPN := Lib.hid (HP7.put (vi' := .slice p9 (acc.length + 1) c9) (acc' := acc ++ [i]) hg9 (by rw [List.length_append]; exact ho9) H29.out H9N.out HG.out HPL.out)
              clear HP7 ho9 hg9 c0 c1 c2 c3 y0 y1 y2 y3 y4 y5
              obtain ⟨c0, c1, c2, c3⟩ := HMD.b4
              have f2 := HMD.fr 2
              clear HMD
              go_wp2_with fail
              clear c0 c1 c2 c3 f2
              go_roundw
              case rel => exact ⟨ln + 1, acc ++ [i], .slice p9 (acc.length + 1) c9, by go_num, by omega, by omega, by rw [List.length_append]; show acc.length + 1 ≤ ln + 1; omega, HPN.out, Lib.hid HB4'.out, Lib.hid (fun j hj => by
                rcases List.mem_append.1 hj with hj | hj
                · exact hai.out j hj
                · rw [List.mem_singleton.1 hj]; exact HI64.out)⟩
              case measure => simp [intOf]; omega
        · obtain rfl : ln = L2.length := by omega
          have HB2 := Lib.hid (hbd.out.trans (by rw [List.drop_length]))
          have HQ : Hid (o = ⟨0, 0, [], [], (L2.length : Int) + 1, 6⟩) := Lib.hid (by rw [HBAD.out (L2.length + 1) HB2.out]; rfl)
          clear hbd
          have HBX := HP.out.box
          have KBX := HP.out.bk
          obtain ⟨c0, c1, c2, c3⟩ := HBX.b4
          have f0 := HBX.fr 0
          have f1 := HBX.fr 1
          have f2 := HBX.fr 2
          have f3 := HBX.fr 3
          have E := Lib.hid (cod_all HBX KBX HG.out 0 0 (.slice none 0 0) (.slice none 0 0))
          unfold cod at E
          clear HBX KBX
          go_wp2_with fail
          generalize hZ : World.setCell _ ⟨n2, 3, none⟩ _ = Z at E ⊢
          clear hZ c0 c1 c2 c3 f0 f1 f2 f3
          obtain ⟨c0, c1, c2, c3⟩ := E.out.1.b4
          refine bodyPost_ret (v := .tuple #[.agg #[.int .i64 0, .int .i64 0, .slice none 0 0, .slice none 0 0], .int .i64 ((L2.length : Int) + 1), .int .i64 6]) (by simp [results, Tryz.results38, go_sem, c0, c1, c2, c3]) rfl ?_
          rw [HQ.out]
          exact ⟨none, none, 0, 0, rfl, ri_nil _, ro_nil _, E.out.2.1⟩
end
/-! part YL -/
section
open Go.RowKit Go.Shelf
theorem parse_bad_rows {l : List UInt8} (h : (parseT l).err ≠ 0) : (parseT l).ins = [] ∧ (parseT l).out = [] := by
  revert h
  unfold parseT
  split
  · intro _; exact ⟨rfl, rfl⟩
  · unfold parseP
    split
    · intro _; exact ⟨rfl, rfl⟩
    · split
      · intro h; exact absurd rfl h
      · intro _; exact ⟨rfl, rfl⟩
theorem parse_good {l : List UInt8} (h : (parseT l).err = 0) : ∃ W R ins out, parseT l = ⟨W, R, ins, out, 0, 0⟩ ∧ progP (lns l) = .ok W R ins out ∧ chkE W R ins out = 0 := by
  revert h
  unfold parseT
  split
  · intro h; exact absurd h (by decide)
  · unfold parseP
    split
    · intro h; exact absurd (show (6 : Int) = 0 from h) (by decide)
    · rename_i W R ins out hp
      split
      · rename_i hc; intro _; exact ⟨W, R, ins, out, rfl, hp, hc⟩
      · rename_i hc; intro h; exact absurd h hc
theorem parse_len (l : List UInt8) : (parseT l).ins.length ≤ 256 ∧ (parseT l).out.length ≤ 8 := by
  by_cases h : (parseT l).err = 0
  · obtain ⟨W, R, ins, out, h1, _, h3⟩ := parse_good h
    rw [h1]
    exact ⟨(chk_ok h3).li, (chk_ok h3).lo⟩
  · obtain ⟨h1, h2⟩ := parse_bad_rows h
    rw [h1, h2]; simp
set_option maxRecDepth 100000 in
set_option maxHeartbeats 4000000 in
theorem parses_law (s : ByteArray) (w : World) (ht : Tb w) : Calls Tryz.prog 7 #[.string s] w fun e w' => e = .returned (.bool true) ∧ BK w w' := by
  have HT := Lib.hid ht
  have LV := Lib.hid (fun wc (hb : BK w wc) => live10 wc (ht.keep hb))
  clear ht
  by_cases h : 3000 < s.size
  · have hi : (3000 : Int) < (s.size : Int) := by omega
    clear h
    have L := Lib.hid (LV.out w (BK.refl w))
    go_enter Tryz.func7, Tryz.ntmps7
    go_wp2_with (go_at_call 10; refine L.out.mono ?_; rintro e w3 ⟨rfl, h3⟩)
    go_ret
    exact ⟨rfl, h3⟩
  · have hi : ¬ (3000 : Int) < (s.size : Int) := by omega
    have P1 := Lib.hid (fun wc (hb : BK w wc) => parse37 s (by omega) wc (HT.out.keep hb))
    have P2 := Lib.hid (fun wc => parse38 s (by omega) wc)
    have PL := Lib.hid (parse_len (bl s))
    have PG := Lib.hid (fun h => parse_good (l := bl s) h)
    clear h
    generalize hrc : parseT (bl s) = rc at P1 P2 PL PG
    clear hrc
    obtain ⟨W, R, ins, out, line, err⟩ := rc
    go_enter Tryz.func7, Tryz.ntmps7
    go_upto_region 4 with (go_at_call 37; refine (P1.out w (BK.refl w)).mono ?_; rintro e w1 ⟨p1, q1, pc1, qc1, rfl, hi1, ho1, h1⟩)
    have N1 := Lib.hid (show C4 (w1.alloc (.cells #[.int .i64 W, .int .i64 R, .slice p1 ins.length pc1, .slice q1 out.length qc1] 34)) w1.heap.size W R (.slice p1 ins.length pc1) (.slice q1 out.length qc1) from heap_alloc_new w1 _)
    have ka := bk_alloc (BK.refl w1) (.cells #[.int .i64 W, .int .i64 R, .slice p1 ins.length pc1, .slice q1 out.length qc1] 34)
    have K1 := Lib.hid (bk_tr h1 ka)
    have I1 := Lib.hid (hi1.keep ka)
    have O1 := Lib.hid (ho1.keep ka)
    clear hi1 ho1 h1 ka
    generalize w1.alloc (.cells #[.int .i64 W, .int .i64 R, .slice p1 ins.length pc1, .slice q1 out.length qc1] 34) = w2 at N1 K1 I1 O1 ⊢
    generalize w1.heap.size = b1 at N1 ⊢
    go_upto_region 5 with (go_at_call 38; refine (P2.out _).mono ?_; rintro e w3 ⟨p2, q2, pc2, qc2, rfl, hi2, ho2, h2⟩)
    have N2 := Lib.hid (show C4 (w3.alloc (.cells #[.int .i64 W, .int .i64 R, .slice p2 ins.length pc2, .slice q2 out.length qc2] 34)) w3.heap.size W R (.slice p2 ins.length pc2) (.slice q2 out.length qc2) from heap_alloc_new w3 _)
    have ka := bk_alloc (BK.refl w3) (.cells #[.int .i64 W, .int .i64 R, .slice p2 ins.length pc2, .slice q2 out.length qc2] 34)
    have N1' := Lib.hid (N1.out.keep (bk_tr h2 ka))
    have I1' := Lib.hid (I1.out.keep (bk_tr h2 ka))
    have O1' := Lib.hid (O1.out.keep (bk_tr h2 ka))
    have K2 := Lib.hid (bk_tr K1.out (bk_tr h2 ka))
    have I2 := Lib.hid (hi2.keep ka)
    have O2 := Lib.hid (ho2.keep ka)
    clear hi2 ho2 h2 ka N1 I1 O1 K1
    generalize w3.alloc (.cells #[.int .i64 W, .int .i64 R, .slice p2 ins.length pc2, .slice q2 out.length qc2] 34) = w4 at N1' N2 K2 I1' O1' I2 O2 ⊢
    generalize w3.heap.size = b2 at N2 ⊢
    obtain ⟨t0, t1, t2, t3⟩ := N1'.out.b4
    obtain ⟨z0, z1, z2, z3⟩ := N2.out.b4
    have S1 := Lib.hid (same36 W R W R p1 q1 p2 q2 pc1 qc1 pc2 qc2 ins ins out out w4 I1'.out O1'.out I2.out O2.out (by have := PL.out.1; omega) (by have := PL.out.2; omega) (by have := PL.out.1; omega) (by have := PL.out.2; omega))
    rw [sameC_yes ⟨rfl, rfl, rfl, rfl⟩] at S1
    go_upto_region 7 with (go_at_call 36; refine S1.out.mono ?_; rintro e w5 ⟨rfl, h5⟩)
    have K5 := Lib.hid (bk_tr K2.out h5)
    have N5 := Lib.hid (N1'.out.keep h5)
    have I5 := Lib.hid (I1'.out.keep h5)
    have O5 := Lib.hid (O1'.out.keep h5)
    clear h5 t0 t1 t2 t3 z0 z1 z2 z3 S1 N1' N2 I1' O1' I2 O2 K2
    by_cases he : err = 0
    · subst he
      obtain ⟨W', R', ins', out', e1, e2, e3⟩ := PG.out rfl
      have ok := chk_ok e3
      obtain ⟨hpt, w64, r64, i64, o64⟩ := prog_W e2
      simp only [RC.mk.injEq] at e1
      obtain ⟨rfl, rfl, rfl, rfl, rfl, _⟩ := e1
      have PR := Lib.hid (fun wc (hb : BK w5 wc) => print33 W R p1 q1 pc1 qc1 ins out wc (HT.out.keep (bk_tr K5.out hb)) (I5.out.keep hb) (O5.out.keep hb) w64 r64 i64 o64 (by have := ok.li; omega) (by have := ok.lo; omega))
      clear e2 e3 ok w64 r64 i64 o64 PG PL
      obtain ⟨t0, t1, t2, t3⟩ := N5.out.b4
      rcases hpt with hpt | hpt
      · have es : sB (printP W R ins out) = s := bl_inj hpt
        rw [es] at PR
        clear hpt es
        go_upto_region 9 with (go_at_call 33; refine (PR.out w5 (BK.refl w5)).mono ?_; rintro e w6 ⟨rfl, h6⟩)
        have L := Lib.hid (LV.out w6 (bk_tr K5.out h6))
        have K6 := Lib.hid (bk_tr K5.out h6)
        clear h6 t0 t1 t2 t3
        go_wp2_with (go_at_call 10; refine L.out.mono ?_; rintro e w7 ⟨rfl, h7⟩)
        go_ret
        exact ⟨rfl, bk_tr K6.out h7⟩
      · have es : sB (printP W R ins out) = s ++ ⟨#[10]⟩ := bl_inj (by rw [bl_app]; exact hpt)
        have e2 : ((s ++ (⟨#[10]⟩ : ByteArray)).toList == s.toList) = false := by
          rw [bl_eqL, ByteArray.toList_eq, bl_app]
          apply decide_eq_false
          intro h
          have := congrArg List.length h
          simp at this
        rw [es] at PR
        clear hpt es
        have C5 := Lib.hid (fun wc (hb : BK w5 wc) => (N5.out.keep hb).b4)
        go_upto_if 53 with (go_at_call 33; first | (refine (PR.out w5 (BK.refl w5)).mono ?_; rintro e w6 ⟨rfl, h6⟩; obtain ⟨y0, y1, y2, y3⟩ := C5.out w6 h6) | (refine (PR.out w6 h6).mono ?_; rintro e w7 ⟨rfl, h7⟩))
        have K7 := Lib.hid (bk_tr K5.out (bk_tr h6 h7))
        have L := Lib.hid (LV.out w7 K7.out)
        clear h6 h7
        go_wp2_with (go_at_call 10; refine L.out.mono ?_; rintro e w8 ⟨rfl, h8⟩)
        go_ret
        exact ⟨rfl, bk_tr K7.out h8⟩
    · have e0 : (err == 0) = false := by simpa using he
      clear he PG PL
      have L := Lib.hid (LV.out w5 K5.out)
      go_wp2_with (go_at_call 10; refine L.out.mono ?_; rintro e w7 ⟨rfl, h7⟩)
      go_ret
      exact ⟨rfl, bk_tr K5.out h7⟩
end
end Go.Proofs.YtneidfbgdgegjaaGreatDoor
