/- The law Back, and what it calls: the reference's Cut and Check; what is printed is read. -/
import Derived.Test.YtneidfbgdgegjaaGreatDoorRX
import Derived.WalkSmall
import Derived.Test.YtneidfbgdgegjaaGreatDoorXM
import Derived.Deep.DeepCutAuto
import Derived.Test.YtneidfbgdgegjaaGreatDoorLM
import Derived.StillTailTactics
import Derived.Test.YtneidfbgdgegjaaGreatDoorPC
import Derived.Test.YtneidfbgdgegjaaGreatDoorDF
import Derived.Test.YtneidfbgdgegjaaGreatDoorWC
import Derived.Lib.ItoaLen
import Derived.Test.YtneidfbgdgegjaaGreatDoorCN
import Derived.Test.YtneidfbgdgegjaaGreatDoorPS
namespace Go.Proofs.YtneidfbgdgegjaaGreatDoor
set_option linter.unusedVariables false
set_option linter.unusedSimpArgs false
/-! part XA -/
section
open Go.RowKit
def bitV (x i : Int) : Int := if 0 ≤ i ∧ i ≤ 63 then bits BinOp.and IntKind.u64 (x / 2 ^ i.toNat) 1 else 0
set_option maxHeartbeats 400000 in
theorem w85 (W : Int) (h1 : 1 ≤ W) (h2 : W ≤ 64) (w : World) : Calls Tryz.prog 85 #[.int .i64 W] w fun e w' => e = .returned (.int .i64 W) ∧ w = w' := by
  go_enter Tryz.func85, Tryz.ntmps85
  go_wp2
  all_goals go_ret
  all_goals exact ⟨ret_int (by omega), rfl⟩
set_option maxHeartbeats 400000 in
theorem bit86 (x i : Int) (w : World) : Calls Tryz.prog 86 #[.int .u64 x, .int .i64 i] w fun e w' => e = .returned (.int .u64 (bitV x i)) ∧ w = w' := by
  by_cases h : 0 ≤ i ∧ i ≤ 63
  · have hB := Lib.hid (show bitV x i = bits BinOp.and IntKind.u64 (x / 2 ^ i.toNat) 1 from if_pos h)
    obtain ⟨h0, h1⟩ := h
    go_enter Tryz.func86, Tryz.ntmps86
    go_wp2
    all_goals go_ret
    all_goals exact ⟨ret_int hB.out.symm, rfl⟩
  · have hB := Lib.hid (show bitV x i = 0 from if_neg h)
    by_cases h0 : i < 0
    · clear h
      go_enter Tryz.func86, Tryz.ntmps86
      go_wp2
      all_goals go_ret
      all_goals exact ⟨ret_int hB.out.symm, rfl⟩
    · have h1 : 63 < i := by omega
      clear h
      go_enter Tryz.func86, Tryz.ntmps86
      go_wp2
      all_goals go_ret
      all_goals exact ⟨ret_int hB.out.symm, rfl⟩
def upV (g : Nat → Int → Int) : Nat → Int
  | 0 => 0
  | k + 1 => g k (upV g k)
def cutG (x : Int) (k : Nat) (y : Int) : Int := bits BinOp.or IntKind.u64 y (IntKind.u64.wrap (bitV x k * 2 ^ k))
def cutV (W x : Int) : Int := upV (cutG x) W.toNat
set_option maxHeartbeats 1000000 in
theorem cut67 (W x : Int) (h1 : 1 ≤ W) (h2 : W ≤ 64) (w : World) : Calls Tryz.prog 67 #[.int .i64 W, .int .u64 x] w fun e w' => e = .returned (.int .u64 (cutV W x)) ∧ w = w' := by
  obtain ⟨n, rfl⟩ : ∃ n : Nat, W = n := ⟨W.toNat, by omega⟩
  have HZ := Lib.hid (show cutV n x = upV (cutG x) n from rfl)
  go_enter Tryz.func67, Tryz.ntmps67
  go_wp2_with (go_at_call 85; refine (w85 n h1 h2 _).mono ?_; rintro e w' ⟨rfl, rfl⟩)
  go_loop [5, 9] (fun m i => ∃ k : Nat, k ≤ n ∧ i = .int .i64 k ∧ m = .int .u64 (upV (cutG x) k)) (fun _ i => n - (intOf i).toNat)
  case atStart => exact ⟨0, Nat.zero_le _, rfl, rfl⟩
  case round =>
    obtain ⟨k, hk, rfl, rfl⟩ := hrel
    by_cases hlt : k < n
    · have HS := Lib.hid (show upV (cutG x) (k + 1) = cutG x k (upV (cutG x) k) from rfl)
      generalize upV (cutG x) k = m at HS ⊢
      go_wp2_with (go_at_call 86; refine (bit86 _ _ _).mono ?_; rintro e w' ⟨rfl, rfl⟩)
      go_round
      case rel => exact ⟨k + 1, by omega, by go_num, by rw [HS.out]; rfl⟩
      case measure => simp [intOf]; omega
    · obtain rfl : k = n := by omega
      go_wp2_with fail
      go_ret
      exact ⟨ret_int HZ.out.symm, rfl⟩
/-! what it comes to -/
theorem or_nat (a b : Nat) (ha : a < 18446744073709551616) (hb : b < 18446744073709551616) : bits BinOp.or IntKind.u64 (a : Int) (b : Int) = ((a ||| b : Nat) : Int) := by
  have hl : a ||| b < 2 ^ 64 := Nat.or_lt_two_pow (by omega) (by omega)
  have e : (BitVec.ofInt IntKind.u64.bits (a : Int) ||| BitVec.ofInt IntKind.u64.bits (b : Int)).toNat = a ||| b := by
    rw [BitVec.toNat_or, BitVec.toNat_ofInt, BitVec.toNat_ofInt, show IntKind.u64.bits = 64 from rfl, show (((a : Int) % ((2 ^ 64 : Nat) : Int)).toNat) = a by omega, show (((b : Int) % ((2 ^ 64 : Nat) : Int)).toNat) = b by omega]
  show IntKind.u64.wrap (((BitVec.ofInt IntKind.u64.bits (a : Int) ||| BitVec.ofInt IntKind.u64.bits (b : Int)).toNat : Nat) : Int) = _
  rw [e]
  exact IntWalk.u64_in _ (by omega)
theorem and_one (a : Nat) (ha : a < 18446744073709551616) : bits BinOp.and IntKind.u64 (a : Int) 1 = ((a % 2 : Nat) : Int) := by
  have e : (BitVec.ofInt IntKind.u64.bits (a : Int) &&& BitVec.ofInt IntKind.u64.bits (1 : Int)).toNat = a % 2 := by
    rw [BitVec.toNat_and, BitVec.toNat_ofInt, BitVec.toNat_ofInt, show IntKind.u64.bits = 64 from rfl, show (((a : Int) % ((2 ^ 64 : Nat) : Int)).toNat) = a by omega, show (((1 : Int) % ((2 ^ 64 : Nat) : Int)).toNat) = 1 by decide, Nat.and_one_is_mod]
  show IntKind.u64.wrap (((BitVec.ofInt IntKind.u64.bits (a : Int) &&& BitVec.ofInt IntKind.u64.bits (1 : Int)).toNat : Nat) : Int) = _
  rw [e]
  exact IntWalk.u64_in _ (by omega)
theorem bitV_nat (x k : Nat) (hk : k ≤ 63) (hx : x < 18446744073709551616) : bitV x k = ((x / 2 ^ k % 2 : Nat) : Int) := by
  unfold bitV
  rw [if_pos (by omega), show ((k : Int)).toNat = k by omega, show ((x : Int) / 2 ^ k) = ((x / 2 ^ k : Nat) : Int) by simp]
  exact and_one _ (Nat.lt_of_le_of_lt (Nat.div_le_self _ _) hx)
theorem pow_le64 {k : Nat} (hk : k ≤ 64) : 2 ^ k ≤ 18446744073709551616 := by
  rw [show (18446744073709551616 : Nat) = 2 ^ 64 by decide]
  exact Nat.pow_le_pow_right (by omega) hk
theorem cut_up (x : Nat) (hx : x < 18446744073709551616) : ∀ k, k ≤ 64 → upV (cutG x) k = ((x % 2 ^ k : Nat) : Int)
  | 0, _ => by simp [upV, Nat.mod_one]
  | k + 1, hk => by
    have ih := cut_up x hx k (by omega)
    show bits BinOp.or IntKind.u64 (upV (cutG x) k) (IntKind.u64.wrap (bitV x k * 2 ^ k)) = _
    rw [ih, bitV_nat x k (by omega) hx]
    have h1 : x % 2 ^ k < 2 ^ k := Nat.mod_lt _ (Nat.two_pow_pos k)
    have h2 := pow_le64 (k := k) (by omega)
    have h3 := pow_le64 hk
    have h4 : x / 2 ^ k % 2 < 2 := Nat.mod_lt _ (by omega)
    have h5 : x / 2 ^ k % 2 * 2 ^ k ≤ 1 * 2 ^ k := Nat.mul_le_mul (by omega) (Nat.le_refl _)
    have h6 : 2 ^ (k + 1) = 2 * 2 ^ k := by rw [Nat.pow_succ]; omega
    have h7 : ((x / 2 ^ k % 2 : Nat) : Int) * 2 ^ k = ((x / 2 ^ k % 2 * 2 ^ k : Nat) : Int) := by simp
    rw [h7, IntWalk.u64_in _ (by omega), or_nat _ _ (by omega) (by omega), Nat.or_comm, Nat.mul_comm, ← Nat.two_pow_add_eq_or_of_lt h1]
    congr 1
    rw [h6, Nat.mul_comm 2 (2 ^ k), Nat.mod_mul]
    omega
theorem cutV_nat (W x : Int) (h1 : 1 ≤ W) (h2 : W ≤ 64) (x0 : 0 ≤ x) (x1 : x < 18446744073709551616) : cutV W x = x ↔ x ≤ maskI W := by
  obtain ⟨n, rfl⟩ : ∃ n : Nat, W = n := ⟨W.toNat, by omega⟩
  obtain ⟨y, rfl⟩ : ∃ y : Nat, x = y := ⟨x.toNat, by omega⟩
  have e : cutV (n : Int) (y : Int) = ((y % 2 ^ n : Nat) : Int) := cut_up y (by omega) n (by omega)
  have em : maskI (n : Int) = ((2 ^ n : Nat) : Int) - 1 := by unfold maskI; simp
  rw [e, em]
  have hp := Nat.two_pow_pos n
  constructor
  · intro h
    have h : y % 2 ^ n = y := by omega
    have := Nat.mod_lt y hp
    omega
  · intro h
    rw [Nat.mod_eq_of_lt (by omega)]
end
/-! part XB -/
section
open Go.RowKit Go.Shelf
theorem own_one (w : World) (B : Nat) (hB : B ≤ w.heap.size) (x : Int) : (w.alloc (.cells #[.int .i64 x] 3)).ownsRow B 3 1 (.slice (some ⟨w.heap.size, 0, none⟩) 1 1) [x].length (ints [x]) :=
  ⟨by simp [ints], .inr ⟨w.heap.size, 1, #[.int .i64 x], rfl, hB, heap_alloc_new w _, Nat.le_refl _, by unfold maxLen; omega, by simp, by simp [ints]⟩⟩
theorem wpI {ops : Array Oper} {rest : List Oper} {o : Oper} {a : Act} {w : World} {Q : Exit → Act → World → Prop} (hgd : o.guard = none) (s x : Operand)
    (ho : o.op = .call { callee := .builtin .append, args := #[s, x], argTypes := #[32, 32] }) (base : Nat) (v : Value) (xs : List Int) (hs : a.eval s = v) (hown : w.ownsRow base 3 1 v xs.length (ints xs))
    (p : Option Addr) (c : Nat) (ys : List Int) (hx : a.eval x = .slice p ys.length c) (hro : RO w p c ys) (hsm : xs.length + ys.length ≤ 1000000) (hbase : base ≤ w.heap.size)
    (h : ∀ p' c' w', w'.ownsRow base 3 1 (.slice p' (xs.length + ys.length) c') (xs ++ ys).length (ints (xs ++ ys)) → w.grownBy w' v.ownBlock ∨ w' = w → wpList Tryz.prog ops Q rest (a.put o.dst (.slice p' (xs.length + ys.length) c')) w') : wpList Tryz.prog ops Q (o :: rest) a w := by
  obtain ⟨i0, hi, hz0, hz1, hz2⟩ := info_parts info3
  cases p with
  | none =>
    have hc := hro.nl rfl
    have hle := hro.le
    obtain rfl := List.eq_nil_of_length_eq_zero (show ys.length = 0 by omega)
    subst hc
    obtain ⟨p', c', rfl⟩ := own_shape hown
    exact wpList_append_own_none hgd s x 32 ho base 3 i0 1 Tryz.underlying32 hi _ xs.length (ints xs) hs hown hx (h p' c' w (by simpa using hown) (.inr rfl))
  | some ad =>
    refine wpList_append_own w hgd s x 32 ho base 3 i0 (.int .i64 0) 1 8 Tryz.underlying32 hi hz0 hz1 hz2 rfl (by decide) v xs.length (ints xs) hs hown ad ys.length c (ints ys) hx (by simp [ints]) (ro_src hro ad rfl) (ints_one ys) (by unfold maxLen; omega) (by omega) hbase ?_
    intro v' w' hown' hgrow _
    obtain ⟨p', c', rfl⟩ := own_shape hown'
    exact h p' c' w' (by rw [List.length_append]; simpa [ints] using hown') (.inl hgrow)
theorem bk_grownI {w0 w w' : World} {v : Value} {B n : Nat} {xs : List Value} (hb : BK w0 w) (ho : w.ownsRow B 3 1 v n xs) (hB : w0.heap.size ≤ B) (h : w.grownBy w' v.ownBlock ∨ w' = w) : BK w0 w' := by
  rcases h with h | rfl
  · exact Below.grown hb h hb.bl.size (fun j hj => Nat.le_trans hB (ho.lt j hj).1)
  · exact hb
def defL (i : I6) : List Int := (if dfB i.op = true then [i.dst] else []) ++ usesL i
theorem regB_defL (R : Int) (i : I6) : regB R i = (defL i).any (fun r => !inB R r) := by
  unfold regB defL
  cases dfB i.op <;> simp
theorem usesL_le3 (i : I6) : (usesL i).length ≤ 3 := by unfold usesL; rw [List.length_take]; simp only [List.length_cons, List.length_nil]; omega
theorem defL_len (i : I6) : (defL i).length ≤ 100 := by
  unfold defL
  have h1 := usesL_le3 i
  have h2 : (if dfB i.op = true then [i.dst] else []).length ≤ 1 := by split <;> simp
  rw [List.length_append]; omega
theorem cut_bool {o c x m : Int} (ho : o = 1) (h : c = x ↔ x ≤ m) : (c != x) = decide (o = 1 ∧ m < x) := by
  by_cases e : c = x
  · have := h.1 e
    rw [decide_eq_false (by omega)]; simpa using e
  · have : ¬ x ≤ m := fun g => e (h.2 g)
    rw [decide_eq_true ⟨ho, by omega⟩]; simpa using e
theorem junk_t {i : I6} (h : (i.op = 0 ∧ i.dst ≠ 0) ∨ (i.op ≠ 1 ∧ i.imm ≠ 0) ∨ (srcs i.op < 1 ∧ i.a ≠ 0) ∨ (srcs i.op < 2 ∧ i.b ≠ 0) ∨ (srcs i.op < 3 ∧ i.c ≠ 0)) : junkB i = true := by
  unfold junkB
  simp only [Bool.or_eq_true, Bool.and_eq_true, decide_eq_true_eq]
  omega
theorem junk_f {i : I6} (h : ¬ ((i.op = 0 ∧ i.dst ≠ 0) ∨ (i.op ≠ 1 ∧ i.imm ≠ 0) ∨ (srcs i.op < 1 ∧ i.a ≠ 0) ∨ (srcs i.op < 2 ∧ i.b ≠ 0) ∨ (srcs i.op < 3 ∧ i.c ≠ 0))) : junkB i = false := by
  cases e : junkB i
  · rfl
  · exfalso; apply h
    unfold junkB at e
    simp only [Bool.or_eq_true, Bool.and_eq_true, decide_eq_true_eq] at e
    omega
theorem op_class {op : Int} (h : 0 ≤ op ∧ op ≤ 19) : (op = 0 ∧ dfB op = false ∧ srcs op = 0) ∨ (op = 1 ∧ dfB op = true ∧ srcs op = 0) ∨ (2 ≤ op ∧ dfB op = true ∧ srcs op = 1) ∨ (2 ≤ op ∧ dfB op = true ∧ srcs op = 2) ∨ (2 ≤ op ∧ dfB op = true ∧ srcs op = 3) := by
  have hd : dfB op = decide (1 ≤ op ∧ op ≤ 19) := rfl
  rw [hd]
  unfold srcs
  rw [if_neg (by omega)]
  by_cases h0 : op = 0
  · left; refine ⟨h0, decide_eq_false (by omega), if_pos (by omega)⟩
  · by_cases h1 : op = 1
    · right; left; refine ⟨h1, decide_eq_true (by omega), if_pos (by omega)⟩
    · have ht : decide (1 ≤ op ∧ op ≤ 19) = true := decide_eq_true (by omega)
      rw [ht, if_neg (by omega)]
      by_cases h4 : op ≤ 4
      · right; right; left; exact ⟨by omega, rfl, if_pos h4⟩
      · rw [if_neg h4]
        by_cases h19 : op = 19
        · right; right; right; right; exact ⟨by omega, rfl, if_pos h19⟩
        · right; right; right; left; exact ⟨by omega, rfl, if_neg h19⟩
def RE (w : World) (x : Int) (e : Ending) (w' : World) : Prop := e = .returned (.int .i64 x) ∧ BK w w'
def AllIn (R : Int) (l : List Int) : Prop := ∀ r ∈ l, inB R r = true
theorem allin_snoc {R : Int} {l : List Int} {k : Nat} (hk : k < l.length) (h : AllIn R (l.take k)) (h2 : inB R l[k] = true) : AllIn R (l.take (k + 1)) := by
  intro r hr
  rw [List.take_succ_eq_append_getElem hk] at hr
  rcases List.mem_append.1 hr with hr | hr
  · exact h r hr
  · rw [List.mem_singleton.1 hr]; exact h2
theorem allin_any {R : Int} {l : List Int} (h : AllIn R l) : l.any (fun r => !inB R r) = false := by
  apply List.any_eq_false.2
  intro r hr
  rw [h r hr]; simp
theorem any_at {R : Int} {l : List Int} {k : Nat} (hk : k < l.length) (h : inB R l[k] = false) : l.any (fun r => !inB R r) = true := by
  apply List.any_eq_true.2
  exact ⟨l[k], List.getElem_mem hk, by rw [h]; rfl⟩
set_option maxRecDepth 100000 in
set_option maxHeartbeats 1000000 in
theorem rins_bad (W R : Int) (p q : Option Addr) (n' pc m qc : Nat) (i : I6) (w : World) (hv : opB i.op = false) : Calls Tryz.prog 43 #[.agg #[.int .i64 W, .int .i64 R, .slice p n' pc, .slice q m qc], .agg #[.int .i64 i.op, .int .i64 i.dst, .int .i64 i.a, .int .i64 i.b, .int .i64 i.c, .int .u64 i.imm]] w (RE w 4) := by
  have k0 := bk_alloc (bk_alloc (BK.refl w) (.cells #[.int .i64 W, .int .i64 R, .slice p n' pc, .slice q m qc] 34)) (.cells #[.int .i64 i.op, .int .i64 i.dst, .int .i64 i.a, .int .i64 i.b, .int .i64 i.c, .int .u64 i.imm] 42)
  have hx := x6_new (w.alloc (.cells #[.int .i64 W, .int .i64 R, .slice p n' pc, .slice q m qc] 34)) i 42
  rw [sz1] at hx
  have H := Lib.hid (kn14 i.op)
  rw [hv] at H
  clear hv
  go_enter Tryz.func43, Tryz.ntmps43
  go_upto_region 1 with (fail)
  generalize (w.alloc (.cells #[.int .i64 W, .int .i64 R, .slice p n' pc, .slice q m qc] 34)).alloc (.cells #[.int .i64 i.op, .int .i64 i.dst, .int .i64 i.a, .int .i64 i.b, .int .i64 i.c, .int .u64 i.imm] 42) = w0 at k0 hx ⊢
  generalize w.heap.size + 1 = g at hx ⊢
  obtain ⟨y0, y1, y2, y3, y4, y5⟩ := hx
  have K0 := Lib.hid k0
  clear k0
  go_wp2_with (go_at_call 14; refine (H.out _).mono ?_; rintro e w' ⟨rfl, rfl⟩)
  go_ret
  exact ⟨rfl, K0.out⟩
set_option maxRecDepth 100000 in
set_option maxHeartbeats 4000000 in
theorem rins_any (W R : Int) (p q : Option Addr) (n' pc m qc : Nat) (i : I6) (w : World) (hv : opB i.op = true) (w1' : 1 ≤ W) (w2' : W ≤ 64) (im0 : 0 ≤ i.imm) (im1 : i.imm < 18446744073709551616) (E : Int) (hE1 : (defL i).any (fun r => !inB R r) = true → E = 18) (hE2 : (defL i).any (fun r => !inB R r) = false → i.op = 1 → maskI W < i.imm → E = 2) (hE3 : (defL i).any (fun r => !inB R r) = false → ¬ (i.op = 1 ∧ maskI W < i.imm) → E = if junkB i = true then 19 else 0) : Calls Tryz.prog 43 #[.agg #[.int .i64 W, .int .i64 R, .slice p n' pc, .slice q m qc], .agg #[.int .i64 i.op, .int .i64 i.dst, .int .i64 i.a, .int .i64 i.b, .int .i64 i.c, .int .u64 i.imm]] w (RE w E) := by
  have k0 := bk_alloc (bk_alloc (BK.refl w) (.cells #[.int .i64 W, .int .i64 R, .slice p n' pc, .slice q m qc] 34)) (.cells #[.int .i64 i.op, .int .i64 i.dst, .int .i64 i.a, .int .i64 i.b, .int .i64 i.c, .int .u64 i.imm] 42)
  have hx := x6_new (w.alloc (.cells #[.int .i64 W, .int .i64 R, .slice p n' pc, .slice q m qc] 34)) i 42
  rw [sz1] at hx
  have b4 := (b4_new w (.int .i64 W) (.int .i64 R) (.slice p n' pc) (.slice q m qc) 34).keep (bk_alloc (BK.refl _) (.cells #[.int .i64 i.op, .int .i64 i.dst, .int .i64 i.a, .int .i64 i.b, .int .i64 i.c, .int .u64 i.imm] 42))
  have KN := Lib.hid (kn14 i.op)
  rw [hv] at KN
  have hop : 0 ≤ i.op ∧ i.op ≤ 19 := by unfold opB at hv; simpa using hv
  have HOP := Lib.hid hop
  have SR := Lib.hid (src17 i.op)
  have U31 := Lib.hid (fun W => uses31 i W)
  have D28 := Lib.hid (fun W => def28 i W)
  have CU := Lib.hid (fun wc => cut67 W i.imm w1' w2' wc)
  have CV := Lib.hid (cutV_nat W i.imm w1' w2' im0 im1)
  have HE1 := Lib.hid hE1
  have HE2 := Lib.hid hE2
  have HE3 := Lib.hid hE3
  have HL := Lib.hid (defL_len i)
  have HUL := Lib.hid (usesL_le3 i)
  have HDV := Lib.hid (show dfB i.op = true → defV i = i.dst from fun h => by unfold defV; rw [if_pos h])
  have HD1 := Lib.hid (show dfB i.op = true → defL i = [i.dst] ++ usesL i from fun h => by unfold defL; rw [if_pos h])
  have HD0 := Lib.hid (show dfB i.op = false → defL i = usesL i from fun h => by unfold defL; rw [h]; rfl)
  clear hv hop im0 im1 hE1 hE2 hE3
  go_enter Tryz.func43, Tryz.ntmps43
  go_upto_region 1 with (fail)
  generalize (w.alloc (.cells #[.int .i64 W, .int .i64 R, .slice p n' pc, .slice q m qc] 34)).alloc (.cells #[.int .i64 i.op, .int .i64 i.dst, .int .i64 i.a, .int .i64 i.b, .int .i64 i.c, .int .u64 i.imm] 42) = w0 at k0 hx b4 ⊢
  generalize w.heap.size + 1 = g at hx ⊢
  have HX := Lib.hid (fun wc (hb : BK w0 wc) => hx.keep hb)
  have HB := Lib.hid (fun wc (hb : BK w0 wc) => b4.keep hb)
  have K0 := Lib.hid k0
  obtain ⟨y0, y1, y2, y3, y4, y5⟩ := hx
  clear k0 b4
  go_upto_region 4 with (first | (go_at_call 14; refine (KN.out _).mono ?_; rintro e w' ⟨rfl, rfl⟩) | (go_at_call 31; refine (U31.out w0).mono ?_; rintro e w1 ⟨p1, c1, rfl, hro, hb1⟩))
  have K1 := Lib.hid hb1
  obtain ⟨z0, z1, z2, z3, z4, z5⟩ := HX.out _ hb1
  have RU := Lib.hid hro
  clear hb1 hro y0 y1 y2 y3 y4 y5
  go_upto_if 21 with (go_at_call 28; refine (D28.out w1).mono ?_; rintro e w2 ⟨rfl, hb2⟩)
  have K2 := Lib.hid (bk_tr K1.out hb2)
  have RU2 := Lib.hid (RU.out.keep hb2)
  clear hb2 z0 z1 z2 z3 z4 z5 RU
  clear D28
  generalize hz : dfB i.op = z at HDV HD1 HD0 ⊢
  have HZ := Lib.hid hz
  clear hz
  go_cut [5] (fun s5 wx => ∃ p5 c5, s5 = .slice p5 (defL i).length c5 ∧ RO wx p5 c5 (defL i) ∧ BK w2 wx)
  case first =>
    cases z
    · have E0 := Lib.hid (HD0.out rfl)
      go_wp2_with fail
      go_meet
      exact ⟨p1, c1, by rw [E0.out], by rw [E0.out]; exact RU2.out, BK.refl _⟩
    · have E1 := Lib.hid (HD1.out rfl)
      have EV := Lib.hid (HDV.out rfl)
      go_wp2_with (at_builtin; go_must (refine wpI rfl (.tmp 23) (.tmp 24) rfl w2.heap.size (.slice (some ⟨w2.heap.size, 0, none⟩) 1 1) [defV i] rfl (own_one w2 w2.heap.size (Nat.le_refl _) (defV i)) p1 c1 (usesL i) rfl (RU2.out.keep (bk_alloc (BK.refl w2) (.cells #[.int .i64 (defV i)] 3))) ?c1 ?c2 ?_))
      case c1 => have := HUL.out; show 1 + (usesL i).length ≤ 1000000; omega
      intro p5 c5 w5 ho hg
      have HO := Lib.hid ho
      have HG := Lib.hid (bk_grownI (bk_alloc (BK.refl w2) (.cells #[.int .i64 (defV i)] 3)) (own_one w2 w2.heap.size (Nat.le_refl _) (defV i)) (Nat.le_refl _) hg)
      clear ho hg
      go_wp2_with fail
      go_meet
      refine ⟨p5, c5, by rw [E1.out, List.length_append]; rfl, ?_, HG.out⟩
      rw [E1.out, ← EV.out]
      exact RO.own HO.out
  case rest =>
  obtain ⟨p5, c5, rfl, hro5, hb5⟩ := hcut
  have RL := Lib.hid hro5
  have K3 := Lib.hid (bk_tr K2.out hb5)
  clear hro5 hb5 K2 RU2
  generalize hL : defL i = L at RL HL HE1 HE2 HE3 ⊢
  clear hL HD1 HD0
  go_wp2_with fail
  go_loopw [8] (fun j wr => ∃ k : Nat, k ≤ L.length ∧ j = .int .i64 k ∧ Hid (AllIn R (L.take k)) ∧ BK wc wr) (fun j _ => L.length - (intOf j).toNat)
  case atStart => exact ⟨0, Nat.zero_le _, rfl, Lib.hid (fun r hr => by simp at hr), BK.refl _⟩
  case round =>
    obtain ⟨k, hkk, rfl, hs, hkw⟩ := hrel
    have HK0 := Lib.hid hkw
    have HLL := HL.out
    by_cases hlt : k < L.length
    · obtain ⟨b, o, rfl, hc⟩ := (RL.out.keep hkw).get k hlt
      obtain ⟨b0, b1, b2, b3⟩ := HB.out _ (bk_tr K3.out hkw)
      have HY := Lib.hid (fun h => allin_snoc hlt hs.out h)
      have HN := Lib.hid (fun h => any_at (R := R) hlt h)
      clear hs hkw
      generalize L[k] = x at hc HY HN
      by_cases hx0 : x < 0
      · have hb0 : decide (x < 0) = true := by simpa using hx0
        have HQ := Lib.hid (HE1.out (HN.out (by unfold inB; apply decide_eq_false; omega)))
        go_wp2_with fail
        go_quiet (fail)
        go_wp2_with fail
        go_ret
        exact ⟨ret_int HQ.out.symm, bk_drewN (bk_tr K0.out (bk_tr K3.out HK0.out)) _⟩
      · have hb0 : decide (x < 0) = false := by simpa using hx0
        by_cases hx1 : R ≤ x
        · have hb1 : decide (R ≤ x) = true := by simpa using hx1
          have hb1' : decide (x ≥ R) = true := by simpa using hx1
          have HQ := Lib.hid (HE1.out (HN.out (by unfold inB; apply decide_eq_false; omega)))
          go_wp2_with fail
          go_quiet (fail)
          go_wp2_with fail
          go_ret
          exact ⟨ret_int HQ.out.symm, bk_drewN (bk_tr K0.out (bk_tr K3.out HK0.out)) _⟩
        · have hb1 : decide (R ≤ x) = false := by simpa using hx1
          have hb1' : decide (x ≥ R) = false := by simpa using hx1
          have HQ := Lib.hid (HY.out (by unfold inB; apply decide_eq_true; omega))
          go_wp2_with fail
          go_quiet (fail)
          go_wp2_with fail
          go_roundw
          case rel => exact ⟨k + 1, by omega, by go_num, Lib.hid HQ.out, bk_drewN HK0.out _⟩
          case measure => simp [intOf]; omega
    · obtain rfl : k = L.length := by omega
      have HA := Lib.hid (allin_any (by have := hs.out; rwa [List.take_length] at this))
      have HE2' := Lib.hid (HE2.out HA.out)
      have HE3' := Lib.hid (HE3.out HA.out)
      have K4 := Lib.hid (bk_tr K3.out HK0.out)
      clear hs hkw HE1 HE2 HE3 HA
      go_upto_region 12 with fail
      go_cut [58] (fun s58 wx => s58 = .bool (decide (i.op = 1 ∧ maskI W < i.imm)) ∧ BK w0 wx)
      case first =>
        by_cases h1 : i.op = 1
        · have H1 := Lib.hid h1
          clear h1
          obtain ⟨t0, t1, t2, t3, t4, t5⟩ := HX.out _ K4.out
          have K4d := Lib.hid (bk_drew K4.out)
          refine wp_region_held_drew (S := fun W' => BK w0 W') (by kernel_rfl) K4d.out (fun hHeld => ?_)
          generalize wr.drew = w3 at hHeld K4d ⊢
          refine wpAnyH_take (i := 0) (v := .pointer (some ⟨g, 0, none⟩)) rfl (by kernel_rfl) (by kernel_rfl) (by kernel_rfl) (fun _ _ _ h => h) (Or.inl ⟨by kernel_rfl, fun w hSw => by (go_simp)⟩) hHeld ?_
          try simp only [Act.put, List.setIfInBounds_toArray, List.set_cons_zero, List.set_cons_succ]
          refine wpAnyH_take (i := 1) (v := .int .i64 1) rfl (by kernel_rfl) (by kernel_rfl) (by kernel_rfl) (fun _ _ _ h => h) (Or.inl ⟨by kernel_rfl, fun w hSw => by (obtain ⟨t0, t1, t2, t3, t4, t5⟩ := HX.out _ hSw; obtain ⟨b0, b1, b2, b3⟩ := HB.out _ hSw; rw [H1.out] at t0; go_simp)⟩) hHeld ?_
          try simp only [Act.put, List.setIfInBounds_toArray, List.set_cons_zero, List.set_cons_succ]
          refine wpAnyH_take (i := 2) (v := .bool true) rfl (by kernel_rfl) (by kernel_rfl) (by kernel_rfl) (fun _ _ _ h => h) (Or.inl ⟨by kernel_rfl, fun w hSw => by (go_simp)⟩) hHeld ?_
          try simp only [Act.put, List.setIfInBounds_toArray, List.set_cons_zero, List.set_cons_succ]
          refine wpAnyH_take (i := 3) (v := .bool true) rfl (by kernel_rfl) (by kernel_rfl) (by kernel_rfl) (fun _ _ _ h => h) (Or.inl ⟨by kernel_rfl, fun w hSw => by (go_simp)⟩) hHeld ?_
          try simp only [Act.put, List.setIfInBounds_toArray, List.set_cons_zero, List.set_cons_succ]
          refine wpAnyH_take (i := 4) (v := .pointer (some ⟨w.heap.size, 0, none⟩)) rfl (by kernel_rfl) (by kernel_rfl) (by kernel_rfl) (fun _ _ _ h => h) (Or.inl ⟨by kernel_rfl, fun w hSw => by (go_simp)⟩) hHeld ?_
          try simp only [Act.put, List.setIfInBounds_toArray, List.set_cons_zero, List.set_cons_succ]
          refine wpAnyH_take (i := 5) (v := .int .i64 W) rfl (by kernel_rfl) (by kernel_rfl) (by kernel_rfl) (fun _ _ _ h => h) (Or.inl ⟨by kernel_rfl, fun w hSw => by (obtain ⟨t0, t1, t2, t3, t4, t5⟩ := HX.out _ hSw; obtain ⟨b0, b1, b2, b3⟩ := HB.out _ hSw; rw [H1.out] at t0; go_simp)⟩) hHeld ?_
          try simp only [Act.put, List.setIfInBounds_toArray, List.set_cons_zero, List.set_cons_succ]
          refine wpAnyH_take (i := 6) (v := .pointer (some ⟨g, 5, none⟩)) rfl (by kernel_rfl) (by kernel_rfl) (by kernel_rfl) (fun _ _ _ h => h) (Or.inl ⟨by kernel_rfl, fun w hSw => by (go_simp)⟩) hHeld ?_
          try simp only [Act.put, List.setIfInBounds_toArray, List.set_cons_zero, List.set_cons_succ]
          refine wpAnyH_take (i := 7) (v := .int .u64 i.imm) rfl (by kernel_rfl) (by kernel_rfl) (by kernel_rfl) (fun _ _ _ h => h) (Or.inl ⟨by kernel_rfl, fun w hSw => by (obtain ⟨t0, t1, t2, t3, t4, t5⟩ := HX.out _ hSw; obtain ⟨b0, b1, b2, b3⟩ := HB.out _ hSw; rw [H1.out] at t0; go_simp)⟩) hHeld ?_
          try simp only [Act.put, List.setIfInBounds_toArray, List.set_cons_zero, List.set_cons_succ]
          refine wpAnyH_take (i := 9) (v := .pointer (some ⟨g, 5, none⟩)) rfl (by kernel_rfl) (by kernel_rfl) (by kernel_rfl) (fun _ _ _ h => h) (Or.inl ⟨by kernel_rfl, fun w hSw => by (go_simp)⟩) hHeld ?_
          try simp only [Act.put, List.setIfInBounds_toArray, List.set_cons_zero, List.set_cons_succ]
          refine wpAnyH_take (i := 10) (v := .int .u64 i.imm) rfl (by kernel_rfl) (by kernel_rfl) (by kernel_rfl) (fun _ _ _ h => h) (Or.inl ⟨by kernel_rfl, fun w hSw => by (obtain ⟨t0, t1, t2, t3, t4, t5⟩ := HX.out _ hSw; obtain ⟨b0, b1, b2, b3⟩ := HB.out _ hSw; rw [H1.out] at t0; go_simp)⟩) hHeld ?_
          try simp only [Act.put, List.setIfInBounds_toArray, List.set_cons_zero, List.set_cons_succ]
          refine wpAnyH_ready (rs := [8]) (by kernel_rfl) (by simp) ?_
          refine AllReadyH.cons (o := _) rfl (fun K9 hK9 => ?_) AllReadyH.nil
          go_simp
          go_at_call 67
          refine (CU.out w3).mono ?_
          rintro e w4 ⟨rfl, rfl⟩
          refine hK9.out _ _ K4d.out (fun hHeld => ?_)
          clear hK9 K9
          try simp only [Act.put, List.setIfInBounds_toArray, List.set_cons_zero, List.set_cons_succ]
          refine wpAnyH_ready (rs := [11]) (by kernel_rfl) (by simp) ?_
          refine AllReadyH.cons (o := _) rfl (fun K9 hK9 => ?_) AllReadyH.nil
          go_simp
          refine hK9.out _ _ K4d.out (fun hHeld => ?_)
          clear hK9 K9
          try simp only [Act.put, List.setIfInBounds_toArray, List.set_cons_zero, List.set_cons_succ]
          refine wpAnyH_ready (rs := [12]) (by kernel_rfl) (by simp) ?_
          refine AllReadyH.cons (o := _) rfl (fun K9 hK9 => ?_) AllReadyH.nil
          go_simp
          refine hK9.out _ _ K4d.out (fun hHeld => ?_)
          clear hK9 K9
          try simp only [Act.put, List.setIfInBounds_toArray, List.set_cons_zero, List.set_cons_succ]
          refine wpAnyH_done (by kernel_rfl) ?_ _
          try simp only [Exit.then]
          clear hHeld
          go_wp2_with fail
          go_meet
          refine ⟨?_, K4d.out⟩
          rw [cut_bool H1.out CV.out]
        · have e1 : (i.op == 1) = false := by simpa using h1
          obtain ⟨y0, y1, y2, y3, y4, y5⟩ := HX.out _ K4.out
          go_quiet (fail)
          go_wp2_with fail
          go_meet
          exact ⟨by rw [decide_eq_false (fun h => h1 h.1)], bk_drewN K4.out _⟩
      case rest =>
      obtain ⟨rfl, hkc⟩ := hcut
      have K5 := Lib.hid hkc
      clear hkc
      by_cases hr : i.op = 1 ∧ maskI W < i.imm
      · have HQ := Lib.hid (HE2'.out hr.1 hr.2)
        rw [decide_eq_true hr]
        clear hr
        go_wp2_with fail
        go_ret
        exact ⟨ret_int HQ.out.symm, bk_tr K0.out K5.out⟩
      · have HE4 := Lib.hid (HE3'.out hr)
        rw [decide_eq_false hr]
        clear hr HE2' HE3'
        obtain ⟨y0, y1, y2, y3, y4, y5⟩ := HX.out _ K5.out
        go_upto_region 15 with (go_at_call 17; refine (SR.out _).mono ?_; rintro e w' ⟨rfl, rfl⟩)
        have HCL := Lib.hid (op_class HOP.out)
        rw [HZ.out] at HCL
        generalize hn : srcs i.op = n at HCL ⊢
        have HN := Lib.hid hn
        clear hn SR
        go_cut [105] (fun s105 wx => s105 = .bool (junkB i) ∧ BK w0 wx)
        case first =>
          rcases HCL.out with ⟨ho, rfl, rfl⟩ | ⟨ho, rfl, rfl⟩ | ⟨ho, rfl, rfl⟩ | ⟨ho, rfl, rfl⟩ | ⟨ho, rfl, rfl⟩
          · have eo : (i.op != 1) = true := by simp; omega
            have HO := Lib.hid ho
            clear ho HCL
            by_cases himm : i.imm = 0
            · have bimm : (i.imm != 0) = false := by simpa using himm
              have Himm := Lib.hid himm
              clear himm
              by_cases hdst : i.dst = 0
              · have bdst : (i.dst != 0) = false := by simpa using hdst
                have Hdst := Lib.hid hdst
                clear hdst
                by_cases ha : i.a = 0
                · have ba : (i.a != 0) = false := by simpa using ha
                  have Ha := Lib.hid ha
                  clear ha
                  by_cases hb : i.b = 0
                  · have bb : (i.b != 0) = false := by simpa using hb
                    have Hb := Lib.hid hb
                    clear hb
                    by_cases hc : i.c = 0
                    · have bc : (i.c != 0) = false := by simpa using hc
                      have Hc := Lib.hid hc
                      clear hc
                      go_wp2_with fail
                      go_meet
                      exact ⟨by rw [junk_f (by have := HO.out; have := HN.out; have := Himm.out; have := Hdst.out; have := Ha.out; have := Hb.out; have := Hc.out; omega)], K5.out⟩
                    · have bc : (i.c != 0) = true := by simpa using hc
                      have Hc := Lib.hid hc
                      clear hc
                      go_wp2_with fail
                      go_meet
                      exact ⟨by rw [junk_t (by have := HO.out; have := HN.out; have := Himm.out; have := Hdst.out; have := Ha.out; have := Hb.out; have := Hc.out; omega)], K5.out⟩
                  · have bb : (i.b != 0) = true := by simpa using hb
                    have Hb := Lib.hid hb
                    clear hb
                    go_wp2_with fail
                    go_meet
                    exact ⟨by rw [junk_t (by have := HO.out; have := HN.out; have := Himm.out; have := Hdst.out; have := Ha.out; have := Hb.out; omega)], K5.out⟩
                · have ba : (i.a != 0) = true := by simpa using ha
                  have Ha := Lib.hid ha
                  clear ha
                  go_wp2_with fail
                  go_meet
                  exact ⟨by rw [junk_t (by have := HO.out; have := HN.out; have := Himm.out; have := Hdst.out; have := Ha.out; omega)], K5.out⟩
              · have bdst : (i.dst != 0) = true := by simpa using hdst
                have Hdst := Lib.hid hdst
                clear hdst
                go_wp2_with fail
                go_meet
                exact ⟨by rw [junk_t (by have := HO.out; have := HN.out; have := Himm.out; have := Hdst.out; omega)], K5.out⟩
            · have bimm : (i.imm != 0) = true := by simpa using himm
              have Himm := Lib.hid himm
              clear himm
              go_wp2_with fail
              go_meet
              exact ⟨by rw [junk_t (by have := HO.out; have := HN.out; have := Himm.out; omega)], K5.out⟩
          · have eo : (i.op != 1) = false := by simp; omega
            have HO := Lib.hid ho
            clear ho HCL
            by_cases ha : i.a = 0
            · have ba : (i.a != 0) = false := by simpa using ha
              have Ha := Lib.hid ha
              clear ha
              by_cases hb : i.b = 0
              · have bb : (i.b != 0) = false := by simpa using hb
                have Hb := Lib.hid hb
                clear hb
                by_cases hc : i.c = 0
                · have bc : (i.c != 0) = false := by simpa using hc
                  have Hc := Lib.hid hc
                  clear hc
                  go_wp2_with fail
                  go_meet
                  exact ⟨by rw [junk_f (by have := HO.out; have := HN.out; have := Ha.out; have := Hb.out; have := Hc.out; omega)], K5.out⟩
                · have bc : (i.c != 0) = true := by simpa using hc
                  have Hc := Lib.hid hc
                  clear hc
                  go_wp2_with fail
                  go_meet
                  exact ⟨by rw [junk_t (by have := HO.out; have := HN.out; have := Ha.out; have := Hb.out; have := Hc.out; omega)], K5.out⟩
              · have bb : (i.b != 0) = true := by simpa using hb
                have Hb := Lib.hid hb
                clear hb
                go_wp2_with fail
                go_meet
                exact ⟨by rw [junk_t (by have := HO.out; have := HN.out; have := Ha.out; have := Hb.out; omega)], K5.out⟩
            · have ba : (i.a != 0) = true := by simpa using ha
              have Ha := Lib.hid ha
              clear ha
              go_wp2_with fail
              go_meet
              exact ⟨by rw [junk_t (by have := HO.out; have := HN.out; have := Ha.out; omega)], K5.out⟩
          · have eo : (i.op != 1) = true := by simp; omega
            have HO := Lib.hid ho
            clear ho HCL
            by_cases himm : i.imm = 0
            · have bimm : (i.imm != 0) = false := by simpa using himm
              have Himm := Lib.hid himm
              clear himm
              by_cases hb : i.b = 0
              · have bb : (i.b != 0) = false := by simpa using hb
                have Hb := Lib.hid hb
                clear hb
                by_cases hc : i.c = 0
                · have bc : (i.c != 0) = false := by simpa using hc
                  have Hc := Lib.hid hc
                  clear hc
                  go_wp2_with fail
                  go_meet
                  exact ⟨by rw [junk_f (by have := HO.out; have := HN.out; have := Himm.out; have := Hb.out; have := Hc.out; omega)], K5.out⟩
                · have bc : (i.c != 0) = true := by simpa using hc
                  have Hc := Lib.hid hc
                  clear hc
                  go_wp2_with fail
                  go_meet
                  exact ⟨by rw [junk_t (by have := HO.out; have := HN.out; have := Himm.out; have := Hb.out; have := Hc.out; omega)], K5.out⟩
              · have bb : (i.b != 0) = true := by simpa using hb
                have Hb := Lib.hid hb
                clear hb
                go_wp2_with fail
                go_meet
                exact ⟨by rw [junk_t (by have := HO.out; have := HN.out; have := Himm.out; have := Hb.out; omega)], K5.out⟩
            · have bimm : (i.imm != 0) = true := by simpa using himm
              have Himm := Lib.hid himm
              clear himm
              go_wp2_with fail
              go_meet
              exact ⟨by rw [junk_t (by have := HO.out; have := HN.out; have := Himm.out; omega)], K5.out⟩
          · have eo : (i.op != 1) = true := by simp; omega
            have HO := Lib.hid ho
            clear ho HCL
            by_cases himm : i.imm = 0
            · have bimm : (i.imm != 0) = false := by simpa using himm
              have Himm := Lib.hid himm
              clear himm
              by_cases hc : i.c = 0
              · have bc : (i.c != 0) = false := by simpa using hc
                have Hc := Lib.hid hc
                clear hc
                go_wp2_with fail
                go_meet
                exact ⟨by rw [junk_f (by have := HO.out; have := HN.out; have := Himm.out; have := Hc.out; omega)], K5.out⟩
              · have bc : (i.c != 0) = true := by simpa using hc
                have Hc := Lib.hid hc
                clear hc
                go_wp2_with fail
                go_meet
                exact ⟨by rw [junk_t (by have := HO.out; have := HN.out; have := Himm.out; have := Hc.out; omega)], K5.out⟩
            · have bimm : (i.imm != 0) = true := by simpa using himm
              have Himm := Lib.hid himm
              clear himm
              go_wp2_with fail
              go_meet
              exact ⟨by rw [junk_t (by have := HO.out; have := HN.out; have := Himm.out; omega)], K5.out⟩
          · have eo : (i.op != 1) = true := by simp; omega
            have HO := Lib.hid ho
            clear ho HCL
            by_cases himm : i.imm = 0
            · have bimm : (i.imm != 0) = false := by simpa using himm
              have Himm := Lib.hid himm
              clear himm
              go_wp2_with fail
              go_meet
              exact ⟨by rw [junk_f (by have := HO.out; have := HN.out; have := Himm.out; omega)], K5.out⟩
            · have bimm : (i.imm != 0) = true := by simpa using himm
              have Himm := Lib.hid himm
              clear himm
              go_wp2_with fail
              go_meet
              exact ⟨by rw [junk_t (by have := HO.out; have := HN.out; have := Himm.out; omega)], K5.out⟩
        case rest =>
        obtain ⟨rfl, hkd⟩ := hcut
        have K6 := Lib.hid hkd
        clear hkd
        cases hj : junkB i
        · have HQ := Lib.hid (show E = 0 from HE4.out.trans (by rw [hj]; rfl))
          go_wp2_with fail
          go_ret
          exact ⟨ret_int HQ.out.symm, bk_tr K0.out K6.out⟩
        · have HQ := Lib.hid (show E = 19 from HE4.out.trans (by rw [hj]; rfl))
          go_wp2_with fail
          go_ret
          exact ⟨ret_int HQ.out.symm, bk_tr K0.out K6.out⟩
end
/-! part XC -/
section
open Go.RowKit Go.Shelf
theorem rins43 (W R : Int) (p q : Option Addr) (n' pc m qc : Nat) (i : I6) (w : World) (w1' : 1 ≤ W) (w2' : W ≤ 64) (im : 0 ≤ i.imm ∧ i.imm < 18446744073709551616) : Calls Tryz.prog 43 #[.agg #[.int .i64 W, .int .i64 R, .slice p n' pc, .slice q m qc], .agg #[.int .i64 i.op, .int .i64 i.dst, .int .i64 i.a, .int .i64 i.b, .int .i64 i.c, .int .u64 i.imm]] w (RE w (insE (maskI W) R i)) := by
  cases ho : opB i.op
  · have : insE (maskI W) R i = 4 := by unfold insE; rw [if_pos ho]
    rw [this]
    exact rins_bad W R p q n' pc m qc i w ho
  · have h0 : insE (maskI W) R i = if regB R i = true then 18 else if i.op = 1 ∧ maskI W < i.imm then 2 else if junkB i = true then 19 else 0 := by unfold insE; rw [if_neg (by rw [ho]; simp)]
    rw [regB_defL] at h0
    refine rins_any W R p q n' pc m qc i w ho w1' w2' im.1 im.2 _ ?_ ?_ ?_
    · intro h; rw [h0, if_pos h]
    · intro h h1 h2; rw [h0, h, if_neg (by simp), if_pos ⟨h1, h2⟩]
    · intro h h1; rw [h0, h, if_neg (by simp), if_neg h1]
theorem dup_yes {l : List Int} {a b : Nat} (h : a < b) (hb : b < l.length) (e : l[b] = l[a]'(by omega)) : dupB l = true := by
  induction l generalizing a b with
  | nil => simp at hb
  | cons x t ih =>
    unfold dupB
    cases b with
    | zero => omega
    | succ b =>
      have hb' : b < t.length := by simpa using hb
      cases a with
      | zero =>
        have : hasB t x = true := by
          unfold hasB
          apply List.any_eq_true.2
          exact ⟨t[b], List.getElem_mem hb', by simpa using e⟩
        rw [this]; rfl
      | succ a => rw [ih (a := a) (b := b) (by omega) hb' (by simpa using e), Bool.or_true]
theorem dup_no : ∀ {l : List Int}, (∀ a b, (h : a < b) → (hb : b < l.length) → l[b] ≠ l[a]'(by omega)) → dupB l = false
  | [], _ => rfl
  | x :: t, h => by
    unfold dupB
    rw [dup_no (l := t) (fun a b hab hb => by have := h (a + 1) (b + 1) (by omega) (by simpa using hb); simpa using this), Bool.or_false]
    apply List.any_eq_false.2
    intro y hy
    obtain ⟨b, hb, rfl⟩ := List.getElem_of_mem hy
    have := h 0 (b + 1) (by omega) (by simpa using hb)
    simpa using this
/-- no two equal among the first n -/
def Ap (l : List Int) (n : Nat) : Prop := ∀ a b, (h : a < b) → (hb : b < l.length) → b < n → l[b] ≠ l[a]'(by omega)
/-- the number at n differs from the first k -/
def Df (l : List Int) (n k : Nat) : Prop := ∀ a, (h : a < n) → (hb : n < l.length) → a < k → l[n] ≠ l[a]'(by omega)
theorem ap_all {l : List Int} (h : Ap l l.length) : dupB l = false := dup_no fun a b hab hb => h a b hab hb hb
theorem ap_succ {l : List Int} {n : Nat} (h : Ap l n) (h2 : Df l n n) : Ap l (n + 1) := by
  intro a b hab hb hn
  by_cases e : b = n
  · subst e; exact h2 a hab hb hab
  · exact h a b hab hb (by omega)
theorem df_succ {l : List Int} {n k : Nat} (hk : k < n) (hn : n < l.length) (h : Df l n k) (e : ¬ l[n] = l[k]'(by omega)) : Df l n (k + 1) := by
  intro a ha hb hak
  by_cases e2 : a = k
  · subst e2; exact e
  · exact h a ha hb (by omega)
theorem cp_of {w w' : World} {k x k' x' : Int} (h1 : k' = k) (h2 : x' = x) (hb : BK w w') : CP w k x (.returned (.tuple #[.int .i64 k', .int .i64 x'])) w' := by
  subst h1 h2; exact ⟨rfl, hb⟩
set_option maxRecDepth 100000 in
set_option maxHeartbeats 4000000 in
theorem chk24_a (W R : Int) (p q : Option Addr) (pc qc : Nat) (ins : List I6) (out : List Int) (w : World) (hb : W < 1 ∨ 64 < W) : Calls Tryz.prog 24 #[.agg #[.int .i64 W, .int .i64 R, .slice p ins.length pc, .slice q out.length qc]] w (CP w (-1) 3) := by
  have b4 := b4_new w (.int .i64 W) (.int .i64 R) (.slice p ins.length pc) (.slice q out.length qc) 34
  have HK := Lib.hid (bk_alloc (BK.refl w) (.cells #[.int .i64 W, .int .i64 R, .slice p ins.length pc, .slice q out.length qc] 34))
  rcases hb with hb | hb
  all_goals
    go_enter Tryz.func24, Tryz.ntmps24
    go_upto_region 1 with (fail)
    generalize w.alloc (.cells #[.int .i64 W, .int .i64 R, .slice p ins.length pc, .slice q out.length qc] 34) = w0 at b4 HK ⊢
    obtain ⟨c0, c1, c2, c3⟩ := b4
    go_wp2_with fail
    go_ret2
    exact ⟨rfl, HK.out⟩
set_option maxRecDepth 100000 in
set_option maxHeartbeats 4000000 in
theorem chk24_b (W R : Int) (p q : Option Addr) (pc qc : Nat) (ins : List I6) (out : List Int) (w : World) (w1 : 1 ≤ W) (w2 : W ≤ 64) (hb : R < 1 ∨ 8 < R) : Calls Tryz.prog 24 #[.agg #[.int .i64 W, .int .i64 R, .slice p ins.length pc, .slice q out.length qc]] w (CP w (-1) 18) := by
  have b4 := b4_new w (.int .i64 W) (.int .i64 R) (.slice p ins.length pc) (.slice q out.length qc) 34
  have HK := Lib.hid (bk_alloc (BK.refl w) (.cells #[.int .i64 W, .int .i64 R, .slice p ins.length pc, .slice q out.length qc] 34))
  rcases hb with hb | hb
  all_goals
    go_enter Tryz.func24, Tryz.ntmps24
    go_upto_region 1 with (fail)
    generalize w.alloc (.cells #[.int .i64 W, .int .i64 R, .slice p ins.length pc, .slice q out.length qc] 34) = w0 at b4 HK ⊢
    obtain ⟨c0, c1, c2, c3⟩ := b4
    go_wp2_with fail
    go_ret2
    exact ⟨rfl, HK.out⟩
set_option maxRecDepth 100000 in
set_option maxHeartbeats 4000000 in
theorem chk24_c (W R : Int) (p q : Option Addr) (pc qc : Nat) (ins : List I6) (out : List Int) (w : World) (w1 : 1 ≤ W) (w2 : W ≤ 64) (r1 : 1 ≤ R) (r2 : R ≤ 8) (hb : 256 < ins.length) : Calls Tryz.prog 24 #[.agg #[.int .i64 W, .int .i64 R, .slice p ins.length pc, .slice q out.length qc]] w (CP w (-1) 7) := by
  have b4 := b4_new w (.int .i64 W) (.int .i64 R) (.slice p ins.length pc) (.slice q out.length qc) 34
  have HK := Lib.hid (bk_alloc (BK.refl w) (.cells #[.int .i64 W, .int .i64 R, .slice p ins.length pc, .slice q out.length qc] 34))
  go_enter Tryz.func24, Tryz.ntmps24
  go_upto_region 1 with (fail)
  generalize w.alloc (.cells #[.int .i64 W, .int .i64 R, .slice p ins.length pc, .slice q out.length qc] 34) = w0 at b4 HK ⊢
  obtain ⟨c0, c1, c2, c3⟩ := b4
  go_wp2_with fail
  go_ret2
  exact ⟨rfl, HK.out⟩
set_option maxRecDepth 100000 in
set_option maxHeartbeats 4000000 in
theorem chk24_d (W R : Int) (p q : Option Addr) (pc qc : Nat) (ins : List I6) (out : List Int) (w : World) (hi : RI w p pc ins) (ho : RO w q qc out) (w1 : 1 ≤ W) (w2 : W ≤ 64) (r1 : 1 ≤ R) (r2 : R ≤ 8) (hb : ins.length ≤ 256) (lo : out.length ≤ 9223372036854775807) (i64 : ∀ i ∈ ins, 0 ≤ i.imm ∧ i.imm < 18446744073709551616) :
    Calls Tryz.prog 24 #[.agg #[.int .i64 W, .int .i64 R, .slice p ins.length pc, .slice q out.length qc]] w (CP w (if firstE (maskI W) R ins = 0 then (if outE R out = 0 then 0 else -1) else (firstK (maskI W) R 0 ins : Int)) (if firstE (maskI W) R ins = 0 then outE R out else firstE (maskI W) R ins)) := by
  have b4 := b4_new w (.int .i64 W) (.int .i64 R) (.slice p ins.length pc) (.slice q out.length qc) 34
  have hk := bk_alloc (BK.refl w) (.cells #[.int .i64 W, .int .i64 R, .slice p ins.length pc, .slice q out.length qc] 34)
  have HI := Lib.hid hi
  have HO := Lib.hid ho
  have HM := Lib.hid i64
  have HZ := Lib.hid (show firstE (maskI W) R (ins.drop ins.length) = 0 by rw [List.drop_length]; rfl)
  have C43 := Lib.hid (fun (i : I6) (wc : World) (h : 0 ≤ i.imm ∧ i.imm < 18446744073709551616) => rins43 W R p q ins.length pc out.length qc i wc w1 w2 h)
  have O1 := Lib.hid (show out.any (fun r => !inB R r) = true → outE R out = 18 from fun h => by unfold outE; rw [if_pos h])
  have O2 := Lib.hid (show out.any (fun r => !inB R r) = false → dupB out = true → outE R out = 9 from fun h g => by unfold outE; rw [if_neg (by rw [h]; simp), if_pos g])
  have O3 := Lib.hid (show out.any (fun r => !inB R r) = false → dupB out = false → outE R out = 0 from fun h g => by unfold outE; rw [if_neg (by rw [h]; simp), if_neg (by rw [g]; simp)])
  have HY1 := Lib.hid (show firstE (maskI W) R ins = 0 → (if firstE (maskI W) R ins = 0 then outE R out else firstE (maskI W) R ins) = outE R out from fun h => if_pos h)
  have HK1 := Lib.hid (show firstE (maskI W) R ins = 0 → (if firstE (maskI W) R ins = 0 then (if outE R out = 0 then 0 else -1) else (firstK (maskI W) R 0 ins : Int)) = if outE R out = 0 then 0 else -1 from fun h => if_pos h)
  have HY2 := Lib.hid (show ¬ firstE (maskI W) R ins = 0 → (if firstE (maskI W) R ins = 0 then outE R out else firstE (maskI W) R ins) = firstE (maskI W) R ins from fun h => if_neg h)
  have HK2 := Lib.hid (show ¬ firstE (maskI W) R ins = 0 → (if firstE (maskI W) R ins = 0 then (if outE R out = 0 then 0 else -1) else (firstK (maskI W) R 0 ins : Int)) = (firstK (maskI W) R 0 ins : Int) from fun h => if_neg h)
  clear hi ho i64
  generalize maskI W = mk at HZ C43 HY1 HK1 HY2 HK2 ⊢
  generalize (if firstE mk R ins = 0 then outE R out else firstE mk R ins) = y at HY1 HY2 ⊢
  generalize (if firstE mk R ins = 0 then (if outE R out = 0 then 0 else -1) else (firstK mk R 0 ins : Int)) = yk at HK1 HK2 ⊢
  go_enter Tryz.func24, Tryz.ntmps24
  go_upto_region 1 with (fail)
  generalize w.alloc (.cells #[.int .i64 W, .int .i64 R, .slice p ins.length pc, .slice q out.length qc] 34) = w0 at b4 hk ⊢
  have H4 := Lib.hid (fun wc (hb : BK w0 wc) => b4.keep hb)
  have HK := Lib.hid hk
  obtain ⟨c0, c1, c2, c3⟩ := b4
  clear hk
  go_wp2_with fail
  clear c0 c1 c2 c3
  go_loopw [4, 5] (fun i _ wr => ∃ k : Nat, k ≤ ins.length ∧ i = .int .i64 k ∧ Hid (firstE mk R ins = firstE mk R (ins.drop k) ∧ firstK mk R 0 ins = firstK mk R k (ins.drop k)) ∧ BK w0 wr) (fun i _ _ => ins.length - (intOf i).toNat)
  case atStart => exact ⟨0, Nat.zero_le _, rfl, Lib.hid ⟨rfl, rfl⟩, BK.refl _⟩
  case round =>
    obtain ⟨k, hkk, rfl, hs, hkw⟩ := hrel
    have HK0 := Lib.hid hkw
    obtain ⟨c0, c1, c2, c3⟩ := H4.out _ hkw
    by_cases hlt : k < ins.length
    · have HS := Lib.hid (hs.out.1.trans (firstE_drop mk R ins k hlt))
      have HSK := Lib.hid (hs.out.2.trans (firstK_drop mk R ins k k hlt))
      obtain ⟨b, o, rfl, hc⟩ := (HI.out.keep (bk_tr HK.out hkw)).get k hlt
      have R43 := Lib.hid (fun wc => C43.out ins[k] wc (HM.out _ (List.getElem_mem hlt)))
      clear hs hkw
      generalize ins[k] = i at hc HS HSK R43
      obtain ⟨d0, d1, d2, d3, d4, d5⟩ := hc
      generalize insE mk R i = x at HS HSK R43
      go_upto_region 10 with fail
      go_still_tail 6, (by kernel_rfl)
      change wpList _ _ _ _ _ wr.drew
      have KD := Lib.hid (bk_drew HK0.out)
      generalize wr.drew = w2 at KD ⊢
      by_cases hx : x = 0
      · subst hx
        have H1 := Lib.hid (And.intro (HS.out.trans (if_pos rfl)) (HSK.out.trans (if_pos rfl)))
        go_wp2_with (go_at_call 43; refine (R43.out w2).mono ?_; rintro e w3 ⟨rfl, hb3⟩)
        have K3 := Lib.hid (bk_tr KD.out hb3)
        clear hb3
        go_roundw
        case rel => exact ⟨k + 1, by omega, by go_num, Lib.hid H1.out, K3.out⟩
        case measure => simp [intOf]; omega
      · have H1 := Lib.hid (HS.out.trans (if_neg hx))
        have H1K := Lib.hid (HSK.out.trans (if_neg hx))
        have hn : (x != 0) = true := by simpa using hx
        have HX := Lib.hid hx
        clear hx
        go_wp2_with (go_at_call 43; refine (R43.out w2).mono ?_; rintro e w3 ⟨rfl, hb3⟩)
        have K3 := Lib.hid (bk_tr KD.out hb3)
        clear hb3
        go_ret2
        exact cp_of ((HK2.out (by rw [H1.out]; exact HX.out)).trans (by rw [H1K.out])).symm ((HY2.out (by rw [H1.out]; exact HX.out)).trans H1.out).symm (bk_tr HK.out K3.out)
    · obtain rfl : k = ins.length := by omega
      have HF := Lib.hid (hs.out.1.trans HZ.out)
      have HP := Lib.hid (HY1.out HF.out)
      have HPK := Lib.hid (HK1.out HF.out)
      clear hs hkw HY1 HY2 HK1 HK2
      generalize outE R out = z at HP HPK O1 O2 O3
      go_wp2_with fail
      clear c0 c1 c2 c3
      have HL := lo
      go_loopw [6] (fun i wr => ∃ k : Nat, k ≤ out.length ∧ i = .int .i64 k ∧ Hid (AllIn R (out.take k)) ∧ BK w0 wr) (fun i _ => out.length - (intOf i).toNat)
      case atStart => exact ⟨0, Nat.zero_le _, rfl, Lib.hid (fun r hr => by simp at hr), HK0.out⟩
      case round =>
        obtain ⟨k, hkk, rfl, hs, hkw⟩ := hrel
        have HK0 := Lib.hid hkw
        obtain ⟨c0, c1, c2, c3⟩ := H4.out _ hkw
        by_cases hlt : k < out.length
        · obtain ⟨b, o, rfl, hc⟩ := (HO.out.keep (bk_tr HK.out hkw)).get k hlt
          have HA := Lib.hid (fun h => allin_snoc hlt hs.out h)
          have HN := Lib.hid (fun h => any_at (R := R) hlt h)
          clear hs hkw
          generalize out[k] = x at hc HA HN
          by_cases hx0 : x < 0
          · have hb0 : decide (x < 0) = true := by simpa using hx0
            have HQ := Lib.hid (O1.out (HN.out (by unfold inB; apply decide_eq_false; omega)))
            go_wp2_with fail
            go_quiet (fail)
            go_wp2_with fail
            go_ret2
            exact cp_of (HPK.out.trans (by rw [HQ.out]; rfl)).symm (HP.out.trans HQ.out).symm (bk_drewN (bk_tr HK.out HK0.out) _)
          · have hb0 : decide (x < 0) = false := by simpa using hx0
            by_cases hx1 : R ≤ x
            · have hb1 : decide (R ≤ x) = true := by simpa using hx1
              have HQ := Lib.hid (O1.out (HN.out (by unfold inB; apply decide_eq_false; omega)))
              go_wp2_with fail
              go_quiet (fail)
              go_wp2_with fail
              go_ret2
              exact cp_of (HPK.out.trans (by rw [HQ.out]; rfl)).symm (HP.out.trans HQ.out).symm (bk_drewN (bk_tr HK.out HK0.out) _)
            · have hb1 : decide (R ≤ x) = false := by simpa using hx1
              have HQ := Lib.hid (HA.out (by unfold inB; apply decide_eq_true; omega))
              go_wp2_with fail
              go_quiet (fail)
              go_wp2_with fail
              go_roundw
              case rel => exact ⟨k + 1, by omega, by go_num, Lib.hid HQ.out, bk_drewN HK0.out _⟩
              case measure => simp [intOf]; omega
        · obtain rfl : k = out.length := by omega
          have HA := Lib.hid (allin_any (by have := hs.out; rwa [List.take_length] at this))
          have O2' := Lib.hid (O2.out HA.out)
          have O3' := Lib.hid (O3.out HA.out)
          clear hs hkw O1 O2 O3
          go_wp2_with fail
          clear c0 c1 c2 c3
          go_loopw [7, 8] (fun i _ wr => ∃ n : Nat, n ≤ out.length ∧ i = .int .i64 n ∧ Hid (Ap out n) ∧ BK w0 wr) (fun i _ _ => out.length - (intOf i).toNat)
          case atStart => exact ⟨0, Nat.zero_le _, rfl, Lib.hid (fun a b _ _ h => by omega), HK0.out⟩
          case round =>
            obtain ⟨n, hnn, rfl, hs, hkw⟩ := hrel
            have HK0 := Lib.hid hkw
            obtain ⟨c0, c1, c2, c3⟩ := H4.out _ hkw
            by_cases hlt : n < out.length
            · have HAP := Lib.hid hs.out
              clear hs hkw
              go_wp2_with fail
              clear c0 c1 c2 c3
              go_loopw [8] (fun j wr => ∃ k : Nat, k ≤ n ∧ j = .int .i64 k ∧ Hid (Df out n k) ∧ BK w0 wr) (fun j _ => n - (intOf j).toNat)
              case atStart => exact ⟨0, Nat.zero_le _, rfl, Lib.hid (fun a _ _ h => by omega), HK0.out⟩
              case round =>
                obtain ⟨k, hkk, rfl, hs, hkw⟩ := hrel
                have HK0 := Lib.hid hkw
                obtain ⟨c0, c1, c2, c3⟩ := H4.out _ hkw
                by_cases hl2 : k < n
                · have hlk : k < out.length := by omega
                  obtain ⟨b, o, rfl, hc⟩ := (HO.out.keep (bk_tr HK.out hkw)).get n hlt
                  obtain ⟨b', o', he', hc'⟩ := (HO.out.keep (bk_tr HK.out hkw)).get k hlk
                  obtain ⟨rfl, rfl⟩ : b = b' ∧ o = o' := by simpa using he'
                  clear he'
                  have HD := Lib.hid (fun e => df_succ hl2 hlt hs.out e)
                  have HU := Lib.hid (fun e => O2'.out (dup_yes hl2 hlt e))
                  clear hs hkw
                  generalize out[n] = x at hc HD HU
                  generalize out[k] = x' at hc' HD HU
                  by_cases hxx : x = x'
                  · have HQ := Lib.hid (HU.out hxx)
                    subst hxx
                    go_wp2_with fail
                    go_quiet (fail)
                    go_wp2_with fail
                    go_ret2
                    exact cp_of (HPK.out.trans (by rw [HQ.out]; rfl)).symm (HP.out.trans HQ.out).symm (bk_drewN (bk_tr HK.out HK0.out) _)
                  · have hb0 : (x == x') = false := by simpa using hxx
                    have HQ := Lib.hid (HD.out hxx)
                    clear hxx
                    go_wp2_with fail
                    go_quiet (fail)
                    go_wp2_with fail
                    go_roundw
                    case rel => exact ⟨k + 1, by omega, by go_num, Lib.hid HQ.out, bk_drewN HK0.out _⟩
                    case measure => simp [intOf]; omega
                · obtain rfl : k = n := by omega
                  have HQ := Lib.hid (ap_succ HAP.out hs.out)
                  clear hs hkw
                  go_wp2_with fail
                  go_roundw
                  case rel => exact ⟨k + 1, by omega, by go_num, Lib.hid HQ.out, HK0.out⟩
                  case measure => simp [intOf]; omega
            · obtain rfl : n = out.length := by omega
              have HQ := Lib.hid (O3'.out (ap_all hs.out))
              clear hs hkw
              go_wp2_with fail
              go_ret2
              exact cp_of (HPK.out.trans (by rw [HQ.out]; rfl)).symm (HP.out.trans HQ.out).symm (bk_tr HK.out HK0.out)
theorem chk24 (W R : Int) (p q : Option Addr) (pc qc : Nat) (ins : List I6) (out : List Int) (w : World) (hi : RI w p pc ins) (ho : RO w q qc out) (lo : out.length ≤ 9223372036854775807) (i64 : ∀ i ∈ ins, 0 ≤ i.imm ∧ i.imm < 18446744073709551616) : Calls Tryz.prog 24 #[.agg #[.int .i64 W, .int .i64 R, .slice p ins.length pc, .slice q out.length qc]] w (CP w (chkK W R ins out) (chkE W R ins out)) := by
  unfold chkE chkK
  split
  · exact chk24_a W R p q pc qc ins out w ‹_›
  · split
    · exact chk24_b W R p q pc qc ins out w (by omega) (by omega) ‹_›
    · split
      · exact chk24_c W R p q pc qc ins out w (by omega) (by omega) (by omega) (by omega) ‹_›
      · exact chk24_d W R p q pc qc ins out w hi ho (by omega) (by omega) (by omega) (by omega) (by omega) lo i64
end
/-! part BP -/
section
/-- neither a blank nor a line feed -/
def Pl (x : List UInt8) : Prop := ∀ c ∈ x, c ≠ 32 ∧ c ≠ 10
theorem pl_dec (u : Nat) : Pl (wrn 10 u) := by
  intro c hc
  have h := wr_dec_mem u c hc
  constructor
  · rintro rfl; exact absurd h.1 (by decide)
  · rintro rfl; exact absurd h.1 (by decide)
theorem pl_itoa (n : Int) : Pl (Lib.itoa n) := by
  rw [itoa_wr]
  split
  · intro c hc
    rcases List.mem_cons.1 hc with rfl | hc
    · exact ⟨by decide, by decide⟩
    · exact pl_dec _ c hc
  · exact pl_dec _
theorem pl_reg (n : Int) : Pl (regT n) := by
  intro c hc
  rcases List.mem_cons.1 hc with rfl | hc
  · exact ⟨by decide, by decide⟩
  · exact pl_itoa n c hc
theorem nm_plain {op : Int} (h : opB op = true) : Pl (nameL op) ∧ nameL op ≠ outL ∧ (nameL op).length ≤ 4 ∧ ofL (nameL op) = some op.toNat := by
  have h0 : 0 ≤ op ∧ op ≤ 19 := by unfold opB at h; simpa using h
  have h2 : op.toNat < 20 := by omega
  have e : nameL op = nmT.getD op.toNat [] := by unfold nameL; rw [if_pos h]
  obtain ⟨g1, g2, -, g4⟩ := nm_no op.toNat h2
  rw [e]
  refine ⟨fun c hc => ?_, g2, g4, ofL_nm _ h2⟩
  have := List.all_eq_true.1 g1 c hc
  simpa using this
theorem lns_lines : ∀ (xs : List (List UInt8)), (∀ x ∈ xs, ∀ c ∈ x, c ≠ 10) → lns (xs.flatMap fun x => x ++ [10]) = xs
  | [], _ => rfl
  | x :: r, h => by
    have ih := lns_lines r (fun y hy => h y (by simp [hy]))
    rw [List.flatMap_cons, List.append_assoc]
    show lns (x ++ 10 :: (r.flatMap fun x => x ++ [10])) = _
    rw [lns_cut _ (h x (by simp)), ih]
theorem tl32_no10 : ∀ {xs : List (List UInt8)}, (∀ x ∈ xs, Pl x) → ∀ c ∈ tl32 xs, c ≠ 10
  | [], _, c, hc => by cases hc
  | x :: r, h, c, hc => by
    have hc : c ∈ (32 :: x ++ tl32 r) := hc
    rcases List.mem_append.1 hc with hc | hc
    · rcases List.mem_cons.1 hc with rfl | hc
      · decide
      · exact (h x (by simp) c hc).2
    · exact tl32_no10 (fun y hy => h y (by simp [hy])) c hc
theorem jn_no10 {xs : List (List UInt8)} (h : ∀ x ∈ xs, Pl x) : ∀ c ∈ jn xs, c ≠ 10 := by
  cases xs with
  | nil => intro c hc; cases hc
  | cons x r =>
    intro c hc
    have hc : c ∈ x ++ tl32 r := hc
    rcases List.mem_append.1 hc with hc | hc
    · exact (h x (by simp) c hc).2
    · exact tl32_no10 (fun y hy => h y (by simp [hy])) c hc
theorem sp_jn' {xs : List (List UInt8)} (hn : xs ≠ []) (h : ∀ x ∈ xs, Pl x) : sp (jn xs) = xs := sp_jn hn (fun x hx c hc => (h x hx c hc).1)
theorem jn_len : ∀ (xs : List (List UInt8)), (jn xs).length ≤ (tl32 xs).length
  | [] => Nat.le_refl _
  | x :: r => by show (x ++ tl32 r).length ≤ (32 :: x ++ tl32 r).length; simp
theorem tl32_len {m : Nat} : ∀ (xs : List (List UInt8)), (∀ x ∈ xs, x.length ≤ m) → (tl32 xs).length ≤ xs.length * (m + 1)
  | [], _ => by simp [tl32]
  | x :: r, h => by
    have ih := tl32_len r (fun y hy => h y (by simp [hy]))
    have hx := h x (by simp)
    show (32 :: x ++ tl32 r).length ≤ (r.length + 1) * (m + 1)
    rw [Nat.add_mul]
    simp only [List.length_append, List.length_cons]
    omega
theorem pl_ins {i : I6} (h : opB i.op = true) : ∀ x ∈ insW i, Pl x := by
  intro x hx
  unfold insW at hx
  rcases List.mem_cons.1 hx with rfl | hx
  · exact (nm_plain h).1
  · rcases List.mem_append.1 hx with hx | hx
    · rcases List.mem_append.1 hx with hx | hx
      · split at hx
        · rw [List.mem_singleton.1 hx]; exact pl_reg _
        · cases hx
      · split at hx
        · rw [List.mem_singleton.1 hx]; exact pl_dec _
        · cases hx
    · obtain ⟨r, -, rfl⟩ := List.mem_map.1 hx
      exact pl_reg r
theorem pl_out (out : List Int) : ∀ x ∈ outW out, Pl x := by
  intro x hx
  unfold outW at hx
  rcases List.mem_cons.1 hx with rfl | hx
  · intro c hc
    revert c
    decide
  · obtain ⟨r, -, rfl⟩ := List.mem_map.1 hx
    exact pl_reg r
theorem pl_head (W R : Int) : ∀ x ∈ headW W R, Pl x := by
  intro x hx
  unfold headW at hx
  simp only [List.mem_cons, List.not_mem_nil, or_false] at hx
  rcases hx with rfl | rfl | rfl | rfl
  · intro c hc; revert c; decide
  · exact pl_itoa _
  · intro c hc; revert c; decide
  · exact pl_itoa _
/-! words are read as what they say -/
theorem inB_in {R r : Int} (h : inB R r = true) : 0 ≤ r ∧ r < R := by unfold inB at h; simpa using h
theorem regO_reg {n : Int} (h : 0 ≤ n) (h2 : n < 9223372036854775808) : regO (regT n) = some n := by
  show (if (114 : UInt8) = 114 then whO (Lib.itoa n) else none) = some n
  rw [if_pos rfl, whO_itoa h h2]
theorem regsO_regs : ∀ {l : List Int}, (∀ n ∈ l, 0 ≤ n ∧ n < 9223372036854775808) → regsO (l.map regT) = some l
  | [], _ => rfl
  | n :: r, h => by
    have ih := regsO_regs (l := r) (fun m hm => h m (by simp [hm]))
    have hn := h n (by simp)
    show (match regO (regT n) with | none => none | some n => match regsO (r.map regT) with | none => none | some l => some (n :: l)) = _
    rw [regO_reg hn.1 hn.2, ih]
theorem headO_head {W R : Int} (h1 : 0 ≤ W) (h2 : W < 9223372036854775808) (h3 : 0 ≤ R) (h4 : R < 9223372036854775808) : headO (headW W R) = some (W, R) := by
  show (if widthL = widthL ∧ regsL = regsL then (match whO (Lib.itoa W) with | none => none | some x => match whO (Lib.itoa R) with | none => none | some y => some (x, y)) else none) = _
  rw [if_pos ⟨rfl, rfl⟩, whO_itoa h1 h2, whO_itoa h3 h4]
/-! a valid instruction -/
theorem insE_zero {m R : Int} {i : I6} (h : insE m R i = 0) : opB i.op = true ∧ regB R i = false ∧ ¬ (i.op = 1 ∧ m < i.imm) ∧ junkB i = false := by
  unfold insE at h
  split at h
  · omega
  · split at h
    · omega
    · split at h
      · omega
      · split at h
        · omega
        · rename_i a b c d
          exact ⟨by simpa using a, by simpa using b, c, by simpa using d⟩
theorem junk_parts {i : I6} (h : junkB i = false) : (i.op = 0 → i.dst = 0) ∧ (i.op ≠ 1 → i.imm = 0) ∧ (srcs i.op < 1 → i.a = 0) ∧ (srcs i.op < 2 → i.b = 0) ∧ (srcs i.op < 3 → i.c = 0) := by
  unfold junkB at h
  simp only [Bool.or_eq_false_iff, Bool.and_eq_false_iff, decide_eq_false_iff_not] at h
  obtain ⟨⟨⟨⟨h1, h2⟩, h3⟩, h4⟩, h5⟩ := h
  refine ⟨fun g => ?_, fun g => ?_, fun g => ?_, fun g => ?_, fun g => ?_⟩
  · rcases h1 with h | h <;> omega
  · rcases h2 with h | h <;> omega
  · rcases h3 with h | h <;> omega
  · rcases h4 with h | h <;> omega
  · rcases h5 with h | h <;> omega
theorem bp_uses {R : Int} {i : I6} (h : regB R i = false) : (dfB i.op = true → inB R i.dst = true) ∧ ∀ r ∈ usesL i, inB R r = true := by
  unfold regB at h
  simp only [Bool.or_eq_false_iff, Bool.and_eq_false_iff] at h
  refine ⟨fun g => ?_, fun r hr => ?_⟩
  · rcases h.1 with h | h
    · rw [g] at h; cases h
    · simpa using h
  · have := List.any_eq_false.1 h.2 r hr
    simpa using this
theorem insO_ins {m R : Int} {i : I6} (h : insE m R i = 0) (hR : R ≤ 8) (h64 : 0 ≤ i.imm ∧ i.imm < 18446744073709551616) : insO (insW i) = some i := by
  obtain ⟨h1, h2, -, h4⟩ := insE_zero h
  obtain ⟨-, -, -, ho⟩ := nm_plain h1
  obtain ⟨j0, j1, j2, j3, j4⟩ := junk_parts h4
  obtain ⟨u0, u1⟩ := bp_uses h2
  have hop : 0 ≤ i.op ∧ i.op ≤ 19 := by unfold opB at h1; simpa using h1
  have hc : ((i.op.toNat : Nat) : Int) = i.op := by omega
  unfold insW insO
  simp only [ho]
  by_cases e1 : i.op = 1
  · have en : i.op.toNat = 1 := by omega
    have hd : dfB i.op = true := by unfold dfB; simp; omega
    have hs : srcs i.op = 0 := by unfold srcs; rw [if_neg (by omega), if_pos (by omega)]
    have hu : usesL i = [] := by unfold usesL; rw [hs]; rfl
    have hr := inB_in (u0 hd)
    rw [en, if_pos hd, if_pos e1, hu]
    show (match regO (regT i.dst) with | none => none | some d => match decO (wrn 10 i.imm.toNat) with | none => none | some x => some (⟨1, d, 0, 0, 0, x⟩ : I6)) = some i
    rw [regO_reg hr.1 (by omega), decO_wr (by omega)]
    have ea := j2 (by omega)
    have eb := j3 (by omega)
    have ec := j4 (by omega)
    have ei : ((i.imm.toNat : Nat) : Int) = i.imm := by omega
    show some (⟨1, i.dst, 0, 0, 0, ((i.imm.toNat : Nat) : Int)⟩ : I6) = some i
    rw [ei]
    obtain ⟨op, dst, a, b, c, imm⟩ := i
    dsimp only at ea eb ec e1
    rw [ea, eb, ec, e1]
  · have en : ¬ i.op.toNat = 1 := by omega
    rw [if_neg en, if_neg e1, List.append_nil]
    have hm := j1 e1
    by_cases e0 : i.op = 0
    · have hd : dfB i.op = false := by unfold dfB; simp; omega
      have hs : srcs i.op = 0 := by unfold srcs; rw [if_neg (by omega), if_pos (by omega)]
      have hu : usesL i = [] := by unfold usesL; rw [hs]; rfl
      rw [hd, hu]
      have en0 : i.op.toNat = 0 := by omega
      rw [en0]
      show (if (([] : List Int).length : Int) = need ((0 : Nat) : Int) then some (⟨((0 : Nat) : Int), 0, 0, 0, 0, 0⟩ : I6) else none) = some i
      rw [if_pos (by decide)]
      have ea := j2 (by omega)
      have eb := j3 (by omega)
      have ec := j4 (by omega)
      have ed := j0 e0
      obtain ⟨op, dst, a, b, c, imm⟩ := i
      dsimp only at ea eb ec e0 ed hm
      rw [ea, eb, ec, e0, ed, hm]
      rfl
    · have hd : dfB i.op = true := by unfold dfB; simp; omega
      have hL : (if dfB i.op = true then [regT i.dst] else []) ++ (usesL i).map regT = (i.dst :: usesL i).map regT := by rw [if_pos hd]; rfl
      rw [hL, regsO_regs]
      · have hn : need i.op = srcs i.op + 1 := by unfold need; rw [if_neg e0]
        rw [hc, hn]
        have hs : srcs i.op = 1 ∨ srcs i.op = 2 ∨ srcs i.op = 3 := by
          unfold srcs; rw [if_neg (by omega), if_neg (by omega)]
          split
          · exact .inl rfl
          · split
            · exact .inr (.inr rfl)
            · exact .inr (.inl rfl)
        rcases hs with hs | hs | hs
        · have hu : usesL i = [i.a] := by unfold usesL; rw [hs]; rfl
          rw [hu, hs]
          show (if (2 : Int) = 1 + 1 then some (⟨i.op, i.dst, i.a, 0, 0, 0⟩ : I6) else none) = some i
          rw [if_pos (by decide)]
          have eb := j3 (by omega)
          have ec := j4 (by omega)
          obtain ⟨op, dst, a, b, c, imm⟩ := i
          dsimp only at eb ec hm ⊢
          rw [eb, ec, hm]
        · have hu : usesL i = [i.a, i.b] := by unfold usesL; rw [hs]; rfl
          rw [hu, hs]
          show (if (3 : Int) = 2 + 1 then some (⟨i.op, i.dst, i.a, i.b, 0, 0⟩ : I6) else none) = some i
          rw [if_pos (by decide)]
          have ec := j4 (by omega)
          obtain ⟨op, dst, a, b, c, imm⟩ := i
          dsimp only at ec hm ⊢
          rw [ec, hm]
        · have hu : usesL i = [i.a, i.b, i.c] := by unfold usesL; rw [hs]; rfl
          rw [hu, hs]
          show (if (4 : Int) = 3 + 1 then some (⟨i.op, i.dst, i.a, i.b, i.c, 0⟩ : I6) else none) = some i
          rw [if_pos (by decide)]
          obtain ⟨op, dst, a, b, c, imm⟩ := i
          dsimp only at hm ⊢
          rw [hm]
      · intro n hn
        rcases List.mem_cons.1 hn with rfl | hn
        · have := inB_in (u0 hd); omega
        · have := inB_in (u1 n hn); omega
/-! the lines -/
theorem body_lines {out : List Int} (ho : regsO (out.map regT) = some out) : ∀ (ins : List I6) (ln : Nat) (acc : List I6), (∀ i ∈ ins, insO (insW i) = some i ∧ sp (jn (insW i)) = insW i ∧ nameL i.op ≠ outL) → bodyP ln acc ((ins.map fun i => jn (insW i)) ++ [jn (outW out)]) = .ok (acc ++ ins) out
  | [], ln, acc, _ => by
    show bodyP ln acc [jn (outW out)] = _
    unfold bodyP
    rw [sp_jn' (by unfold outW; simp) (pl_out out)]
    show (if outL = outL then (match regsO (out.map regT) with | none => PR.bad (ln + 1) | some out => PR.ok acc out) else _) = _
    rw [if_pos rfl, ho, List.append_nil]
  | i :: r, ln, acc, h => by
    obtain ⟨h1, h2, h3⟩ := h i (by simp)
    have ih := body_lines ho r (ln + 1) (acc ++ [i]) (fun j hj => h j (by simp [hj]))
    show bodyP ln acc (jn (insW i) :: ((r.map fun i => jn (insW i)) ++ [jn (outW out)])) = _
    unfold bodyP
    rw [h2, if_neg (by show ¬ nameL i.op = outL; exact h3), h1]
    show bodyP (ln + 1) (acc ++ [i]) _ = _
    rw [ih]
    simp
theorem printP_lines (W R : Int) (ins : List I6) (out : List Int) : printP W R ins out = (jn (headW W R) :: ((ins.map fun i => jn (insW i)) ++ [jn (outW out)])).flatMap fun x => x ++ [10] := by
  unfold printP lineP
  rw [List.flatMap_cons, List.flatMap_append, List.flatMap_map]
  simp
/-! no more outputs than registers -/
theorem dup_filter (x : Int) : ∀ {l : List Int}, dupB l = false → l.length ≤ (l.filter fun y => decide (y ≠ x)).length + 1
  | [], _ => by simp
  | y :: t, h => by
    unfold dupB at h
    obtain ⟨h1, h2⟩ := Bool.or_eq_false_iff.1 h
    by_cases e : y = x
    · subst e
      have : t.filter (fun z => decide (z ≠ y)) = t := by
        apply List.filter_eq_self.2
        intro z hz
        have := List.any_eq_false.1 h1 z hz
        simpa using this
      rw [List.filter_cons_of_neg (by simp), this]
      simp
    · have ih := dup_filter x h2
      rw [List.filter_cons_of_pos (by simpa using e)]
      simp only [List.length_cons]
      omega
theorem dup_sub (p : Int → Bool) : ∀ {l : List Int}, dupB l = false → dupB (l.filter p) = false
  | [], _ => rfl
  | y :: t, h => by
    unfold dupB at h
    obtain ⟨h1, h2⟩ := Bool.or_eq_false_iff.1 h
    by_cases e : p y = true
    · rw [List.filter_cons_of_pos e]
      unfold dupB
      rw [dup_sub p h2, Bool.or_false]
      apply List.any_eq_false.2
      intro z hz
      exact List.any_eq_false.1 h1 z (List.mem_filter.1 hz).1
    · rw [List.filter_cons_of_neg e]; exact dup_sub p h2
theorem dup_short : ∀ (n : Nat) {l : List Int}, dupB l = false → (∀ x ∈ l, 0 ≤ x ∧ x < (n : Int)) → l.length ≤ n
  | 0, l, _, h2 => by
    cases l with
    | nil => simp
    | cons x t => have := h2 x (by simp); omega
  | n + 1, l, h, h2 => by
    have a := dup_filter (n : Int) h
    have b := dup_short n (dup_sub (fun y => decide (y ≠ (n : Int))) h) (by
      intro x hx
      obtain ⟨hx, hy⟩ := List.mem_filter.1 hx
      have := h2 x hx
      have hy : x ≠ (n : Int) := by simpa using hy
      omega)
    omega
/-! the whole -/
theorem bp_first {m R : Int} : ∀ {ins : List I6}, firstE m R ins = 0 → ∀ i ∈ ins, insE m R i = 0
  | [], _, i, hi => by cases hi
  | j :: t, h, i, hi => by
    unfold firstE at h
    split at h
    · rename_i hj
      rcases List.mem_cons.1 hi with rfl | hi
      · exact hj
      · exact bp_first h i hi
    · rename_i hj; exact absurd h hj
structure OkC (W R : Int) (ins : List I6) (out : List Int) : Prop where
  w1 : 1 ≤ W
  w2 : W ≤ 64
  r1 : 1 ≤ R
  r2 : R ≤ 8
  li : ins.length ≤ 256
  lo : out.length ≤ 8
  ie : ∀ i ∈ ins, insE (maskI W) R i = 0
  oi : ∀ x ∈ out, 0 ≤ x ∧ x < R
theorem chk_ok {W R : Int} {ins : List I6} {out : List Int} (h : chkE W R ins out = 0) : OkC W R ins out := by
  unfold chkE at h
  split at h
  · omega
  · split at h
    · omega
    · split at h
      · omega
      · split at h
        · rename_i a b c d
          unfold outE at h
          split at h
          · omega
          · split at h
            · omega
            · rename_i e f
              have ho : ∀ x ∈ out, 0 ≤ x ∧ x < R := by
                intro x hx
                have e : out.any (fun r => !inB R r) = false := by simpa using e
                have := List.any_eq_false.1 e x hx
                exact inB_in (by simpa using this)
              have hl := dup_short R.toNat (by simpa using f) (fun x hx => by have := ho x hx; omega)
              exact ⟨by omega, by omega, by omega, by omega, by omega, by omega, bp_first d, ho⟩
        · rename_i d; exact absurd h d
theorem bp_reglen {R n : Int} (h : inB R n = true) (hR : R ≤ 8) : (regT n).length ≤ 2 := by
  have hn := inB_in h
  unfold regT
  rw [itoa_wr, if_neg (by omega), wrn_lt (by omega)]
  simp
theorem bp_inslen {m R : Int} {i : I6} (h : insE m R i = 0) (hR : R ≤ 8) (h64 : 0 ≤ i.imm ∧ i.imm < 18446744073709551616) : (jn (insW i)).length ≤ 195 := by
  obtain ⟨h1, h2, -, -⟩ := insE_zero h
  obtain ⟨u0, u1⟩ := bp_uses h2
  have hop : 0 ≤ i.op ∧ i.op ≤ 19 := by unfold opB at h1; simpa using h1
  have hu : (usesL i).length ≤ 3 := by unfold usesL; rw [List.length_take]; simp only [List.length_cons, List.length_nil]; omega
  have h3 := jn_len (insW i)
  by_cases e1 : i.op = 1
  · have hd : dfB i.op = true := by unfold dfB; simp; omega
    have hs : srcs i.op = 0 := by unfold srcs; rw [if_neg (by omega), if_pos (by omega)]
    have hu : usesL i = [] := by unfold usesL; rw [hs]; rfl
    have he : insW i = [nameL i.op, regT i.dst, wrn 10 i.imm.toNat] := by
      unfold insW; rw [if_pos hd, if_pos e1, hu]; rfl
    have hx : ∀ x ∈ insW i, x.length ≤ 64 := by
      intro x hx
      rw [he] at hx
      simp only [List.mem_cons, List.not_mem_nil, or_false] at hx
      rcases hx with rfl | rfl | rfl
      · have := (nm_plain h1).2.2.1; omega
      · have := bp_reglen (u0 hd) hR; omega
      · exact wrn_len 10 _ (.inl rfl) (by omega)
    have h4 := tl32_len (insW i) hx
    have h5 : (insW i).length = 3 := by rw [he]; rfl
    rw [h5] at h4
    omega
  · have hx : ∀ x ∈ insW i, x.length ≤ 4 := by
      intro x hx
      unfold insW at hx
      rcases List.mem_cons.1 hx with rfl | hx
      · exact (nm_plain h1).2.2.1
      · rcases List.mem_append.1 hx with hx | hx
        · rcases List.mem_append.1 hx with hx | hx
          · split at hx
            · rename_i hd
              rw [List.mem_singleton.1 hx]; have := bp_reglen (u0 hd) hR; omega
            · cases hx
          · rw [if_neg e1] at hx; cases hx
        · obtain ⟨r, hr', rfl⟩ := List.mem_map.1 hx
          have := bp_reglen (u1 r hr') hR; omega
    have h4 := tl32_len (insW i) hx
    have h5 : (insW i).length ≤ 5 := by
      unfold insW
      rw [if_neg e1]
      simp only [List.length_cons, List.length_append, List.length_map, List.length_nil]
      have : (if dfB i.op = true then [regT i.dst] else []).length ≤ 1 := by split <;> simp
      omega
    have h6 : (insW i).length * (4 + 1) ≤ 5 * 5 := Nat.mul_le_mul h5 (Nat.le_refl _)
    omega
theorem flat_len {α : Type} (f : α → List UInt8) (m : Nat) : ∀ (l : List α), (∀ x ∈ l, (f x).length ≤ m) → (l.flatMap f).length ≤ l.length * m
  | [], _ => by simp
  | x :: r, h => by
    have ih := flat_len f m r (fun y hy => h y (by simp [hy]))
    have hx := h x (by simp)
    rw [List.flatMap_cons, List.length_append, List.length_cons, Nat.add_mul]
    omega
theorem printP_len {W R : Int} {ins : List I6} {out : List Int} (h : OkC W R ins out) (h64 : ∀ i ∈ ins, 0 ≤ i.imm ∧ i.imm < 18446744073709551616) : (printP W R ins out).length ≤ 65536 := by
  unfold printP
  simp only [List.length_append]
  have a : (lineP (headW W R)).length ≤ 100 := by
    unfold lineP
    have hx : ∀ x ∈ headW W R, x.length ≤ 21 := by
      intro x hx
      unfold headW at hx
      simp only [List.mem_cons, List.not_mem_nil, or_false] at hx
      have hw := h.w1; have hw2 := h.w2; have hr := h.r1; have hr2 := h.r2
      rcases hx with rfl | rfl | rfl | rfl
      · decide
      · exact Lib.itoa_length_le _ (by omega) (by omega)
      · decide
      · exact Lib.itoa_length_le _ (by omega) (by omega)
    have h4 := tl32_len (headW W R) hx
    have h3 := jn_len (headW W R)
    have h5 : (headW W R).length = 4 := rfl
    rw [h5] at h4
    simp only [List.length_append, List.length_cons, List.length_nil]
    omega
  have b : (ins.flatMap fun i => lineP (insW i)).length ≤ ins.length * 196 := by
    apply flat_len
    intro i hi
    have := bp_inslen (h.ie i hi) h.r2 (h64 i hi)
    unfold lineP
    simp only [List.length_append, List.length_cons, List.length_nil]
    omega
  have c : (lineP (outW out)).length ≤ 100 := by
    unfold lineP
    have hx : ∀ x ∈ outW out, x.length ≤ 3 := by
      intro x hx
      unfold outW at hx
      rcases List.mem_cons.1 hx with rfl | hx
      · decide
      · obtain ⟨r, hr, rfl⟩ := List.mem_map.1 hx
        have := bp_reglen (R := R) (n := r) (by have := h.oi r hr; unfold inB; simpa using this) h.r2
        omega
    have h4 := tl32_len (outW out) hx
    have h3 := jn_len (outW out)
    have h5 : (outW out).length = out.length + 1 := by unfold outW; simp
    have h6 := h.lo
    rw [h5] at h4
    simp only [List.length_append, List.length_cons, List.length_nil]
    omega
  have d := h.li
  omega
theorem progP_print {W R : Int} {ins : List I6} {out : List Int} (h : OkC W R ins out) (h64 : ∀ i ∈ ins, 0 ≤ i.imm ∧ i.imm < 18446744073709551616) : progP (lns (printP W R ins out)) = .ok W R ins out := by
  have hw := h.w1; have hw2 := h.w2; have hr := h.r1; have hr2 := h.r2
  rw [printP_lines, lns_lines]
  · have hb := body_lines (out := out) (regsO_regs (fun n hn => by have := h.oi n hn; omega)) ins 1 [] (fun i hi => by
      have h0 := insE_zero (h.ie i hi)
      exact ⟨insO_ins (h.ie i hi) h.r2 (h64 i hi), sp_jn' (by unfold insW; simp) (pl_ins h0.1), (nm_plain h0.1).2.1⟩)
    have hh : headO (sp (jn (headW W R))) = some (W, R) := by
      rw [sp_jn' (by unfold headW; simp) (pl_head W R), headO_head (by omega) (by omega) (by omega) (by omega)]
    unfold progP
    dsimp only
    rw [hh]
    dsimp only
    rw [hb]
    rfl
  · intro x hx
    rcases List.mem_cons.1 hx with rfl | hx
    · exact jn_no10 (pl_head W R)
    · rcases List.mem_append.1 hx with hx | hx
      · obtain ⟨i, hi, rfl⟩ := List.mem_map.1 hx
        exact jn_no10 (pl_ins (insE_zero (h.ie i hi)).1)
      · rw [List.mem_singleton.1 hx]
        exact jn_no10 (pl_out out)
/-- a valid program's text is read as the program -/
theorem parse_print {W R : Int} {ins : List I6} {out : List Int} (h : chkE W R ins out = 0) (h64 : ∀ i ∈ ins, 0 ≤ i.imm ∧ i.imm < 18446744073709551616) : parseT (printP W R ins out) = ⟨W, R, ins, out, 0, 0⟩ := by
  have ok := chk_ok h
  have hl := printP_len ok h64
  unfold parseT
  rw [if_neg (by omega)]
  unfold parseP
  rw [progP_print ok h64]
  show (if chkE W R ins out = 0 then (⟨W, R, ins, out, 0, 0⟩ : RC) else _) = _
  rw [if_pos h]
end
/-! part CL -/
section
open Go.ChangeShapes Go.WideShapes Go.RowKit Go.Deep Go.Joins
set_option maxRecDepth 100000
section
variable {H : Type} {enc : TypeId × Value → H} {w : World} {base : Nat} {sp : Nat → Bool} {held : Bool}
theorem open_codeL {r : Reach} {b0 : Nat} {v : Value} {d : DataW H} {ps : List MemPlace} (hv : Value.okWide Tryz.prog w r b0 34 v) (h : DataW.Trod enc Tryz.prog w base (fun _ => true) held 34 v d ps) :
    ∃ (W R : Int) (p q : Option Addr) (pc qc : Nat) (ins : List I6) (out : List Int), v = .agg #[.int .i64 W, .int .i64 R, .slice p ins.length pc, .slice q out.length qc] ∧ In64 W ∧ In64 R ∧ (∀ i ∈ ins, I64 i) ∧ (∀ z ∈ out, In64 z) ∧ RI w p pc ins ∧ RO w q qc out ∧ out.length ≤ 9223372036854775807 := by
  obtain ⟨v0, v1, v2, v3, y0, y1, y2, y3, n, rfl, rfl, rfl, h0, h1, h2, h3⟩ := open_agg4 Tryz.underlying34 (by kernel_rfl) cells34 hv h
  obtain ⟨W, e0, -, w0⟩ := DataW.trod_int Tryz.underlying3 h0
  obtain ⟨R, e1, -, w1⟩ := DataW.trod_int Tryz.underlying3 h1
  obtain ⟨p, pc, ins, e2, hi, hi64⟩ := open_inss h2
  obtain ⟨q, qc, out, e3, ho, ho64⟩ := open_out h3
  have hl : out.length ≤ 9223372036854775807 := by
    rcases open_slice Tryz.underlying32 h3 with ⟨hcs, _⟩ | ⟨a, len, cap, m, n, D, Pl, hcs, _, hl, hm, _⟩
    · rw [hcs] at e3; simp at e3; omega
    · rw [hcs] at e3; simp at e3; unfold maxLen at hm; omega
  simp at e0 e1 e2 e3
  subst e0 e1 e2 e3
  exact ⟨W, R, p, q, pc, qc, ins, out, rfl, in64_of w0, in64_of w1, hi64, ho64, hi, ho, hl⟩
end
end
/-! part XO -/
section
open Go.RowKit Go.Shelf
set_option maxRecDepth 100000 in
set_option maxHeartbeats 4000000 in
theorem back_law (W R : Int) (p q : Option Addr) (pc qc : Nat) (ins : List I6) (out : List Int) (hW : In64 W) (hR : In64 R) (h64 : ∀ i ∈ ins, I64 i) (o64 : ∀ x ∈ out, In64 x) (w : World) (hi : RI w p pc ins) (ho : RO w q qc out) (lo : out.length ≤ 9223372036854775807) (ht : Tb w) :
    Calls Tryz.prog 8 #[.agg #[.int .i64 W, .int .i64 R, .slice p ins.length pc, .slice q out.length qc]] w fun e w' => e = .returned (.bool true) ∧ BK w w' := by
  have HT := Lib.hid ht
  have LV := Lib.hid (fun wc (hb : BK w wc) => live10 wc (ht.keep hb))
  have HI := Lib.hid hi
  have HO := Lib.hid ho
  have N0 := Lib.hid (show C4 (w.alloc (.cells #[.int .i64 W, .int .i64 R, .slice p ins.length pc, .slice q out.length qc] 34)) w.heap.size W R (.slice p ins.length pc) (.slice q out.length qc) from heap_alloc_new w _)
  have K1 := Lib.hid (bk_alloc (BK.refl w) (.cells #[.int .i64 W, .int .i64 R, .slice p ins.length pc, .slice q out.length qc] 34))
  have HM := Lib.hid (show ∀ i ∈ ins, 0 ≤ i.imm ∧ i.imm < 18446744073709551616 from fun i hi => ⟨(h64 i hi).m0, (h64 i hi).m1⟩)
  have H64 := Lib.hid h64
  have O64 := Lib.hid o64
  have HL := Lib.hid lo
  clear hi ho ht h64 o64 lo
  go_enter Tryz.func8, Tryz.ntmps8
  go_upto_region 1 with (fail)
  generalize w.alloc (.cells #[.int .i64 W, .int .i64 R, .slice p ins.length pc, .slice q out.length qc] 34) = w1 at N0 K1 ⊢
  have N1 := N0
  clear N0
  generalize w.heap.size = b0 at N1 ⊢
  obtain ⟨t0, t1, t2, t3⟩ := N1.out.b4
  have D1 := Lib.hid (chk24 W R p q pc qc ins out w1 (HI.out.keep K1.out) (HO.out.keep K1.out) HL.out HM.out)
  have HC := Lib.hid (show chkE W R ins out = chkE W R ins out from rfl)
  generalize hy : chkE W R ins out = y at D1
  generalize chkK W R ins out = x at D1
  by_cases h0 : y = 0
  · have HOK := Lib.hid (hy.trans h0)
    clear hy HC
    subst h0
    have OK := Lib.hid (chk_ok HOK.out)
    have HPP := Lib.hid (parse_print HOK.out HM.out)
    have HPL := Lib.hid (printP_len OK.out HM.out)
    go_upto_region 4 with (go_at_call 24; refine D1.out.mono ?_; rintro e w2 ⟨rfl, h2⟩)
    have K2 := Lib.hid h2
    clear h2 t0 t1 t2 t3 D1
    obtain ⟨t0, t1, t2, t3⟩ := (N1.out.keep K2.out).b4
    have P1 := Lib.hid (print33 W R p q pc qc ins out w2 (HT.out.keep (bk_tr K1.out K2.out)) (HI.out.keep (bk_tr K1.out K2.out)) (HO.out.keep (bk_tr K1.out K2.out)) hW hR H64.out O64.out (by have := OK.out.li; omega) (by have := OK.out.lo; omega))
    have P2 := Lib.hid (fun w3 (hb : BK w2 w3) => parse37 (sB (printP W R ins out)) (by have := HPL.out; show (printP W R ins out).length ≤ 100000; omega) w3 (HT.out.keep (bk_tr (bk_tr K1.out K2.out) hb)))
    rw [show bl (sB (printP W R ins out)) = printP W R ins out from rfl, HPP.out] at P2
    clear HPP HPL
    generalize sB (printP W R ins out) = s at P1 P2
    go_upto_region 5 with (first | (go_at_call 33; refine P1.out.mono ?_; rintro e w3 ⟨rfl, h3⟩) | (go_at_call 37; refine (P2.out w3 h3).mono ?_; rintro e w4 ⟨p4, q4, pc4, qc4, rfl, hi4, ho4, h4⟩))
    have N4 := Lib.hid (show C4 (w4.alloc (.cells #[.int .i64 W, .int .i64 R, .slice p4 ins.length pc4, .slice q4 out.length qc4] 34)) w4.heap.size W R (.slice p4 ins.length pc4) (.slice q4 out.length qc4) from heap_alloc_new w4 _)
    have K4 := Lib.hid (bk_tr (bk_tr K2.out (bk_tr h3 h4)) (bk_alloc (BK.refl w4) (.cells #[.int .i64 W, .int .i64 R, .slice p4 ins.length pc4, .slice q4 out.length qc4] 34)))
    have I4 := Lib.hid (hi4.keep (bk_alloc (BK.refl w4) (.cells #[.int .i64 W, .int .i64 R, .slice p4 ins.length pc4, .slice q4 out.length qc4] 34)))
    have O4 := Lib.hid (ho4.keep (bk_alloc (BK.refl w4) (.cells #[.int .i64 W, .int .i64 R, .slice p4 ins.length pc4, .slice q4 out.length qc4] 34)))
    clear t0 t1 t2 t3 h3 h4 hi4 ho4 P1 P2
    generalize w4.alloc (.cells #[.int .i64 W, .int .i64 R, .slice p4 ins.length pc4, .slice q4 out.length qc4] 34) = w5 at N4 K4 I4 O4 ⊢
    generalize w4.heap.size = b4 at N4 ⊢
    obtain ⟨t0, t1, t2, t3⟩ := (N1.out.keep K4.out).b4
    obtain ⟨z0, z1, z2, z3⟩ := N4.out.b4
    have S1 := Lib.hid (same36 W R W R p q p4 q4 pc qc pc4 qc4 ins ins out out w5 (HI.out.keep (bk_tr K1.out K4.out)) (HO.out.keep (bk_tr K1.out K4.out)) I4.out O4.out (by have := OK.out.li; omega) (by have := OK.out.lo; omega) (by have := OK.out.li; omega) (by have := OK.out.lo; omega))
    rw [sameC_yes ⟨rfl, rfl, rfl, rfl⟩] at S1
    go_wp2_with fail
    refine S1.out.mono ?_
    rintro e w6 ⟨rfl, h6⟩
    have K6 := Lib.hid (bk_tr K4.out h6)
    clear h6 t0 t1 t2 t3 z0 z1 z2 z3
    have L := Lib.hid (LV.out w6 (bk_tr K1.out K6.out))
    go_wp2_with fail
    refine L.out.mono ?_
    rintro e w7 ⟨rfl, h7⟩
    have K7 := Lib.hid (bk_tr K6.out h7)
    clear h7
    go_wp2_with fail
    go_ret
    exact ⟨rfl, bk_tr K1.out K7.out⟩
  · have hn : (y != 0) = true := by simpa using h0
    clear h0 hy HC
    go_upto_region 2 with (go_at_call 24; refine D1.out.mono ?_; rintro e w2 ⟨rfl, h2⟩)
    have K2 := Lib.hid (bk_tr K1.out h2)
    have L := Lib.hid (LV.out w2 K2.out)
    clear h2 t0 t1 t2 t3
    go_wp2_with fail
    refine L.out.mono ?_
    rintro e w3 ⟨rfl, h3⟩
    have K3 := Lib.hid (bk_tr K2.out h3)
    clear h3
    go_wp2_with fail
    go_ret
    exact ⟨rfl, K3.out⟩
end
end Go.Proofs.YtneidfbgdgegjaaGreatDoor
