/- Numerals: what the functions of digits compute, without memory. -/
import Derived.Lib.ItoaNum
import Derived.Lib.ItoaMem
import Derived.Lib.ItoaLen
import Derived.Lib.ParseIntB
import Derived.Lib.ParseIntBCases
import Derived.Lib.AtoiAll
import Derived.Lib.AtoiAllCases
namespace Go.Proofs.YtneidfbgdgegjaaGreatDoor
set_option linter.unusedVariables false
set_option linter.unusedSimpArgs false
/-- a digit's value -/
def dgv (c : UInt8) : Nat := if c.toNat ≤ 57 then c.toNat - 48 else c.toNat - 87
def isDec (c : UInt8) : Bool := decide (48 ≤ c.toNat ∧ c.toNat ≤ 57)
def isHex (c : UInt8) : Bool := decide ((48 ≤ c.toNat ∧ c.toNat ≤ 57) ∨ (97 ≤ c.toNat ∧ c.toNat ≤ 102))
def pb (b : Nat) (c : UInt8) : Bool := if b = 16 then isHex c else isDec c
/-- what digits denote -/
def vl (b : Nat) : Nat → List UInt8 → Nat
  | a, [] => a
  | a, c :: l => vl b (b * a + dgv c) l
def noLead (l : List UInt8) : Bool := l == [48] || (match l with | [] => false | c :: _ => c != 48)
def numB (p : UInt8 → Bool) (l : List UInt8) : Bool := l.all p && noLead l
def numE (b : Nat) (l : List UInt8) : Lib.NumEnd Nat := if numB (pb b) l then (if vl b 0 l < 18446744073709551616 then .ok (vl b 0 l) else .range) else .syntax
def hx (d : Nat) : UInt8 := UInt8.ofNat (if d < 10 then 48 + d else 87 + d)
def wrn (b : Nat) (u : Nat) : List UInt8 := if h : u < b ∨ b < 2 then [hx u] else wrn b (u / b) ++ [hx (u % b)]
termination_by u
decreasing_by exact Nat.div_lt_self (by omega) (by omega)
theorem wrn_lt {b u : Nat} (h : u < b) : wrn b u = [hx u] := by rw [wrn, dif_pos (.inl h)]
theorem wrn_ge {b u : Nat} (h2 : 2 ≤ b) (h : b ≤ u) : wrn b u = wrn b (u / b) ++ [hx (u % b)] := by rw [wrn, dif_neg (by omega)]
theorem wr10 (u : Nat) : wrn 10 u = Lib.decDigits u := by
  induction u using Nat.strongRecOn with
  | _ u ih =>
    rw [Lib.decDigits]
    by_cases h : u < 10
    · rw [wrn_lt h, dif_pos h, hx, if_pos h]
    · rw [wrn_ge (by omega) (by omega), dif_neg h, ih _ (by omega), hx, if_pos (by omega)]
theorem hx_nat {d : Nat} (h : d < 16) : (hx d).toNat = if d < 10 then 48 + d else 87 + d := by
  unfold hx; rw [UInt8.toNat_ofNat']; split <;> omega
theorem dgv_hx {d : Nat} (h : d < 16) : dgv (hx d) = d := by
  unfold dgv; rw [hx_nat h]; split <;> split <;> omega
theorem hx_dgv {c : UInt8} (h : isHex c = true) : hx (dgv c) = c := by
  unfold isHex at h
  have h := of_decide_eq_true h
  apply UInt8.toNat_inj.1
  rw [hx_nat (by unfold dgv; split <;> omega)]
  unfold dgv; split <;> split <;> omega
theorem isHex_of {c : UInt8} (h : isDec c = true) : isHex c = true := by
  unfold isDec at h; unfold isHex
  have h := of_decide_eq_true h
  exact decide_eq_true (.inl h)
theorem pb_hex {b : Nat} {c : UInt8} (h : pb b c = true) : isHex c = true := by
  unfold pb at h; split at h
  · exact h
  · exact isHex_of h
theorem pb_hx {b d : Nat} (hb : b = 10 ∨ b = 16) (h : d < b) : pb b (hx d) = true := by
  have h16 := hx_nat (show d < 16 by omega)
  unfold pb
  rcases hb with rfl | rfl
  · rw [if_neg (by omega)]; unfold isDec; rw [h16, if_pos h]; exact decide_eq_true (by omega)
  · rw [if_pos rfl]; unfold isHex; rw [h16]; exact decide_eq_true (by split <;> omega)
theorem dgv_lt {b : Nat} (hb : b = 10 ∨ b = 16) {c : UInt8} (h : pb b c = true) : dgv c < b := by
  unfold pb at h
  rcases hb with rfl | rfl
  · rw [if_neg (by omega)] at h
    have h := of_decide_eq_true h
    unfold dgv; split <;> omega
  · rw [if_pos rfl] at h
    have h := of_decide_eq_true h
    unfold dgv; split <;> omega
theorem vl_app (b : Nat) (l m : List UInt8) : ∀ a, vl b a (l ++ m) = vl b (vl b a l) m := by
  induction l with
  | nil => intro a; rfl
  | cons c l ih => intro a; exact ih _
theorem vl_ge (b : Nat) (hb : 1 ≤ b) (l : List UInt8) : ∀ a, a ≤ vl b a l := by
  induction l with
  | nil => intro a; exact Nat.le_refl _
  | cons c l ih =>
    intro a
    have := ih (b * a + dgv c)
    show a ≤ vl b (b * a + dgv c) l
    have h2 : a ≤ b * a := Nat.le_mul_of_pos_left a hb
    omega
theorem vl_mono (b : Nat) (l : List UInt8) : ∀ a a', a ≤ a' → vl b a l ≤ vl b a' l := by
  induction l with
  | nil => intro a a' h; exact h
  | cons c l ih => intro a a' h; exact ih _ _ (Nat.add_le_add_right (Nat.mul_le_mul_left b h) _)
theorem vl_wr {b : Nat} (hb : b = 10 ∨ b = 16) (u : Nat) : vl b 0 (wrn b u) = u := by
  induction u using Nat.strongRecOn with
  | _ u ih =>
    by_cases h : u < b
    · rw [wrn_lt h]
      show b * 0 + dgv (hx u) = u
      rw [dgv_hx (by omega)]; omega
    · rw [wrn_ge (by omega) (by omega), vl_app, ih _ (Nat.div_lt_self (by omega) (by omega))]
      show b * (u / b) + dgv (hx (u % b)) = u
      have := Nat.mod_lt u (show 0 < b by omega)
      rw [dgv_hx (by omega)]
      exact Nat.div_add_mod u b
theorem wr_all {b : Nat} (hb : b = 10 ∨ b = 16) (u : Nat) : (wrn b u).all (pb b) = true := by
  induction u using Nat.strongRecOn with
  | _ u ih =>
    by_cases h : u < b
    · rw [wrn_lt h]; simp [pb_hx hb h]
    · rw [wrn_ge (by omega) (by omega), List.all_append, ih _ (Nat.div_lt_self (by omega) (by omega))]
      simp [pb_hx hb (Nat.mod_lt u (show 0 < b by omega))]
theorem wr_ne (b u : Nat) : wrn b u ≠ [] := by
  rw [wrn]; split <;> simp
theorem hx_ne48 {d : Nat} (h : d < 16) (h0 : d ≠ 0) : hx d ≠ 48 := by
  intro e
  have := hx_nat h
  rw [e] at this
  have e2 : (48 : UInt8).toNat = 48 := rfl
  rw [e2] at this
  split at this <;> omega
theorem wr_head {b : Nat} (hb : b = 10 ∨ b = 16) (u : Nat) (h0 : u ≠ 0) : ∀ c r, wrn b u = c :: r → c ≠ 48 := by
  induction u using Nat.strongRecOn with
  | _ u ih =>
    intro c r hc
    by_cases h : u < b
    · rw [wrn_lt h] at hc
      obtain ⟨rfl, -⟩ := List.cons.inj hc
      exact hx_ne48 (by omega) h0
    · rw [wrn_ge (by omega) (by omega)] at hc
      have hq : u / b ≠ 0 := by
        intro e
        rcases Nat.div_eq_zero_iff.1 e with e | e <;> omega
      have hi := ih _ (Nat.div_lt_self (by omega) (by omega)) hq
      generalize e0 : wrn b (u / b) = l at hc hi
      cases l with
      | nil => exact absurd e0 (wr_ne b _)
      | cons d s =>
        obtain ⟨rfl, -⟩ := List.cons.inj hc
        exact hi _ _ rfl
theorem wr_noLead {b : Nat} (hb : b = 10 ∨ b = 16) (u : Nat) : noLead (wrn b u) = true := by
  by_cases h0 : u = 0
  · subst h0
    rw [wrn_lt (by omega)]
    rfl
  · have hh := wr_head hb u h0
    have hn := wr_ne b u
    unfold noLead
    generalize wrn b u = l at hh hn
    cases l with
    | nil => exact absurd rfl hn
    | cons c r =>
      have := hh c r rfl
      simp [this]
theorem wr_num {b : Nat} (hb : b = 10 ∨ b = 16) (u : Nat) : numB (pb b) (wrn b u) = true := by
  unfold numB; rw [wr_all hb, wr_noLead hb]; rfl
theorem numE_wr {b : Nat} (hb : b = 10 ∨ b = 16) {u : Nat} (h : u < 18446744073709551616) : numE b (wrn b u) = .ok u := by
  unfold numE; rw [wr_num hb, if_pos rfl, vl_wr hb, if_pos h]
/-- a numeral is written so -/
theorem wr_vl {b : Nat} (hb : b = 10 ∨ b = 16) : ∀ (n : Nat) (l : List UInt8), l.length = n → l.all (pb b) = true → l ≠ [] → (∀ c r, l = c :: r → r = [] ∨ c ≠ 48) → wrn b (vl b 0 l) = l := by
  intro n
  induction n with
  | zero => intro l hl _ hn _; exact absurd (List.eq_nil_of_length_eq_zero hl) hn
  | succ n ih =>
    intro l hl ha hn hh
    obtain ⟨l', c, rfl⟩ : ∃ l' c, l = l' ++ [c] := ⟨l.dropLast, l.getLast hn, (List.dropLast_concat_getLast hn).symm⟩
    rw [List.all_append] at ha
    obtain ⟨ha1, ha2⟩ := Bool.and_eq_true_iff.1 ha
    have hc : pb b c = true := by simpa using ha2
    have hd := dgv_lt hb hc
    have hhx := hx_dgv (pb_hex hc)
    by_cases h0 : l' = []
    · subst h0
      show wrn b (b * 0 + dgv c) = [c]
      rw [Nat.mul_zero, Nat.zero_add, wrn_lt hd, hhx]
    · have hi := ih l' (by simp at hl; omega) ha1 h0 (fun d r e => by
        subst e
        rcases hh d (r ++ [c]) rfl with h | h
        · simp at h
        · exact .inr h)
      rw [vl_app]
      show wrn b (b * vl b 0 l' + dgv c) = l' ++ [c]
      have hv : 1 ≤ vl b 0 l' := by
        cases l' with
        | nil => exact absurd rfl h0
        | cons d r =>
          have hd48 : d ≠ 48 := by
            rcases hh d (r ++ [c]) rfl with h | h
            · simp at h
            · exact h
          have hdd : pb b d = true := by simp at ha1; exact ha1.1
          have h1 : 1 ≤ dgv d := by
            by_cases hz : dgv d = 0
            · exfalso
              have := hx_dgv (pb_hex hdd)
              rw [hz] at this
              exact hd48 this.symm
            · omega
          have h2 := vl_ge b (by omega) r (b * 0 + dgv d)
          have h3 : vl b 0 (d :: r) = vl b (b * 0 + dgv d) r := rfl
          rw [h3]; omega
      have hbig : b ≤ b * vl b 0 l' := Nat.le_mul_of_pos_right b hv
      rw [wrn_ge (by omega) (by omega)]
      have e1 : (b * vl b 0 l' + dgv c) / b = vl b 0 l' := by
        rw [Nat.mul_add_div (by omega), Nat.div_eq_of_lt hd, Nat.add_zero]
      have e2 : (b * vl b 0 l' + dgv c) % b = dgv c := by
        rw [Nat.mul_add_mod, Nat.mod_eq_of_lt hd]
      rw [e1, e2, hi, hhx]
theorem noLead_cases {l : List UInt8} (h : noLead l = true) : l ≠ [] ∧ ∀ c r, l = c :: r → r = [] ∨ c ≠ 48 := by
  unfold noLead at h
  cases l with
  | nil => simp at h
  | cons c r =>
    refine ⟨by simp, fun c' r' e => ?_⟩
    obtain ⟨rfl, rfl⟩ := List.cons.inj e
    simp at h
    rcases h with h | h
    · exact .inl h.2
    · exact .inr h
theorem num_wr {b : Nat} (hb : b = 10 ∨ b = 16) {l : List UInt8} (h : numB (pb b) l = true) : wrn b (vl b 0 l) = l := by
  unfold numB at h
  obtain ⟨h1, h2⟩ := Bool.and_eq_true_iff.1 h
  obtain ⟨h3, h4⟩ := noLead_cases h2
  exact wr_vl hb _ l rfl h1 h3 h4
theorem numE_ok {b : Nat} {l : List UInt8} {u : Nat} (h : numE b l = .ok u) : numB (pb b) l = true ∧ u = vl b 0 l ∧ u < 18446744073709551616 := by
  unfold numE at h
  split at h
  · split at h
    · rename_i h1 h2
      cases h
      exact ⟨h1, rfl, h2⟩
    · cases h
  · cases h
theorem numE_uniq {b : Nat} (hb : b = 10 ∨ b = 16) {l : List UInt8} {u : Nat} (h : numE b l = .ok u) : wrn b u = l := by
  obtain ⟨h1, rfl, _⟩ := numE_ok h
  exact num_wr hb h1
/-! the shelf's words -/
theorem pu10 : ∀ (l : List UInt8) (a : Nat), a < 18446744073709551616 → l.all isDec = true → Lib.parseUint10 a l = if vl 10 a l < 18446744073709551616 then .ok (vl 10 a l) else .range
  | [], a, ha, _ => by show Lib.NumEnd.ok a = if a < 18446744073709551616 then _ else _; rw [if_pos ha]; rfl
  | c :: r, a, ha, h => by
    obtain ⟨hc, hr⟩ : isDec c = true ∧ r.all isDec = true := by simpa using h
    have hc := of_decide_eq_true hc
    have hd : dgv c = c.toNat - 48 := by unfold dgv; rw [if_pos hc.2]
    show (if 48 ≤ c.toNat ∧ c.toNat ≤ 57 then if 1844674407370955162 ≤ a then Lib.NumEnd.range else if 18446744073709551616 ≤ a * 10 + (c.toNat - 48) then .range else Lib.parseUint10 (a * 10 + (c.toNat - 48)) r else .syntax) = if vl 10 (10 * a + dgv c) r < 18446744073709551616 then .ok (vl 10 (10 * a + dgv c) r) else .range
    rw [if_pos hc, hd]
    have hg := vl_ge 10 (by omega) r (10 * a + (c.toNat - 48))
    by_cases h1 : 1844674407370955162 ≤ a
    · rw [if_pos h1, if_neg (by omega)]
    · rw [if_neg h1]
      by_cases h2 : 18446744073709551616 ≤ a * 10 + (c.toNat - 48)
      · rw [if_pos h2, if_neg (by omega)]
      · rw [if_neg h2, show a * 10 + (c.toNat - 48) = 10 * a + (c.toNat - 48) by omega]
        exact pu10 r _ (by omega) hr
theorem pm_num {l : List UInt8} (h : numB isDec l = true) : Lib.parseMag l = numE 10 l := by
  have h' := h
  unfold numB at h
  obtain ⟨h1, h2⟩ := Bool.and_eq_true_iff.1 h
  unfold Lib.parseMag
  rw [if_neg (noLead_cases h2).1, pu10 l 0 (by omega) h1]
  unfold numE
  have hp : pb 10 = isDec := by funext c; unfold pb; rw [if_neg (by omega)]
  rw [hp, h', if_pos rfl]
theorem pub_num {l : List UInt8} (h : numB isDec l = true) : Lib.parseUintB 64 l = numE 10 l := by
  rw [← pm_num h]
  have hn : l ≠ [] := (noLead_cases (Bool.and_eq_true_iff.1 h).2).1
  unfold Lib.parseUintB Lib.parseMag
  rw [if_neg hn, if_neg hn, show (2 : Nat) ^ 64 - 1 = 18446744073709551615 by decide, Lib.parseUintM_64]
/-! what Parse and ParseInt return -/
def parseS (l : List UInt8) : Lib.NumEnd Nat := if l.take 2 = [48, 120] then numE 16 (l.drop 2) else numE 10 l
def neg (e : Lib.NumEnd Nat) : Lib.NumEnd Int := match e with
  | .ok x => if x = 0 then .syntax else if x ≤ 9223372036854775808 then .ok (-(x : Int)) else .range
  | .syntax => .syntax
  | .range => .range
def pos (e : Lib.NumEnd Nat) : Lib.NumEnd Int := match e with
  | .ok x => if x < 9223372036854775808 then .ok (x : Int) else .range
  | .syntax => .syntax
  | .range => .range
def parseI (l : List UInt8) : Lib.NumEnd Int := if l.take 1 = [45] then neg (numE 10 (l.drop 1)) else pos (numE 10 l)
def In64 (z : Int) : Prop := -9223372036854775808 ≤ z ∧ z ≤ 9223372036854775807
theorem wr_dec_mem (u : Nat) : ∀ c ∈ wrn 10 u, 48 ≤ c.toNat ∧ c.toNat ≤ 57 := by
  intro c hc
  have := List.all_eq_true.1 (wr_all (b := 10) (.inl rfl) u) c hc
  unfold pb at this
  rw [if_neg (by omega)] at this
  exact of_decide_eq_true this
theorem take2_dec {l : List UInt8} (h : ∀ c ∈ l, c.toNat ≤ 57) : l.take 2 ≠ [48, 120] := by
  intro e
  have : (120 : UInt8) ∈ l := List.mem_of_mem_take (i := 2) (by rw [e]; simp)
  exact absurd (h _ this) (by decide)
theorem parse_dec {u : Nat} (h : u < 18446744073709551616) : parseS (wrn 10 u) = .ok u := by
  unfold parseS
  rw [if_neg (take2_dec fun c hc => (wr_dec_mem u c hc).2), numE_wr (.inl rfl) h]
theorem parse_hex {u : Nat} (h : u < 18446744073709551616) : parseS (48 :: 120 :: wrn 16 u) = .ok u := by
  show (if ([48, 120] : List UInt8) = [48, 120] then numE 16 (wrn 16 u) else numE 10 (48 :: 120 :: wrn 16 u)) = _
  rw [if_pos rfl]
  exact numE_wr (.inr rfl) h
theorem parse_uniq {l : List UInt8} {u : Nat} (h : parseS l = .ok u) : wrn 10 u = l ∨ 48 :: 120 :: wrn 16 u = l := by
  unfold parseS at h
  split at h
  · rename_i h2
    right
    rw [numE_uniq (.inr rfl) h]
    have := List.take_append_drop 2 l
    rw [h2] at this
    exact this
  · exact .inl (numE_uniq (.inl rfl) h)
theorem itoa_wr (n : Int) : Lib.itoa n = if n < 0 then 45 :: wrn 10 n.natAbs else wrn 10 n.toNat := by
  unfold Lib.itoa; rw [wr10, wr10]
theorem parseI_itoa {n : Int} (h : In64 n) : parseI (Lib.itoa n) = .ok n := by
  obtain ⟨h0, h1⟩ := h
  rw [itoa_wr]
  by_cases hn : n < 0
  · rw [if_pos hn]
    show (if ([45] : List UInt8) = [45] then neg (numE 10 (wrn 10 n.natAbs)) else pos (numE 10 (45 :: wrn 10 n.natAbs))) = _
    rw [if_pos rfl]
    show neg (numE 10 (wrn 10 n.natAbs)) = _
    rw [numE_wr (.inl rfl) (by omega)]
    show (if n.natAbs = 0 then Lib.NumEnd.syntax else if n.natAbs ≤ 9223372036854775808 then .ok (-(n.natAbs : Int)) else .range) = _
    rw [if_neg (by omega), if_pos (by omega)]
    congr 1; omega
  · rw [if_neg hn]
    unfold parseI
    have : (wrn 10 n.toNat).take 1 ≠ [45] := by
      intro e
      have : (45 : UInt8) ∈ wrn 10 n.toNat := List.mem_of_mem_take (i := 1) (by rw [e]; simp)
      exact absurd (wr_dec_mem _ _ this).1 (by decide)
    rw [if_neg this, numE_wr (.inl rfl) (by omega)]
    show (if n.toNat < 9223372036854775808 then Lib.NumEnd.ok (n.toNat : Int) else .range) = _
    rw [if_pos (by omega)]
    congr 1; omega
theorem neg_ok {e : Lib.NumEnd Nat} {n : Int} (h : neg e = .ok n) : ∃ x : Nat, e = .ok x ∧ x ≠ 0 ∧ x ≤ 9223372036854775808 ∧ n = -(x : Int) := by
  cases e with
  | ok x =>
    simp only [neg] at h
    split at h
    · cases h
    · split at h
      · rename_i h1 h2
        cases h
        exact ⟨x, rfl, h1, h2, rfl⟩
      · cases h
  | «syntax» => cases h
  | range => cases h
theorem pos_ok {e : Lib.NumEnd Nat} {n : Int} (h : pos e = .ok n) : ∃ x : Nat, e = .ok x ∧ x < 9223372036854775808 ∧ n = (x : Int) := by
  cases e with
  | ok x =>
    simp only [pos] at h
    split at h
    · rename_i h1
      cases h
      exact ⟨x, rfl, h1, rfl⟩
    · cases h
  | «syntax» => cases h
  | range => cases h
theorem parseI_in {l : List UInt8} {n : Int} (h : parseI l = .ok n) : In64 n := by
  unfold parseI at h
  unfold In64
  split at h
  · obtain ⟨x, -, h1, h2, rfl⟩ := neg_ok h
    omega
  · obtain ⟨x, -, h1, rfl⟩ := pos_ok h
    omega
theorem parseI_uniq {l : List UInt8} {n : Int} (h : parseI l = .ok n) : Lib.itoa n = l := by
  rw [itoa_wr]
  unfold parseI at h
  split at h
  · rename_i h2
    obtain ⟨x, e, h1, h3, rfl⟩ := neg_ok h
    rw [if_pos (by omega), show (-(x : Int)).natAbs = x by omega, numE_uniq (.inl rfl) e]
    have := List.take_append_drop 1 l
    rw [h2] at this
    exact this
  · obtain ⟨x, e, h1, rfl⟩ := pos_ok h
    rw [if_neg (by omega), show ((x : Int)).toNat = x by omega, numE_uniq (.inl rfl) e]
/-! lists -/
def tl32 : List (List UInt8) → List UInt8
  | [] => []
  | x :: r => 32 :: x ++ tl32 r
def jn : List (List UInt8) → List UInt8
  | [] => []
  | x :: r => x ++ tl32 r
theorem tl32_app (l m : List (List UInt8)) : tl32 (l ++ m) = tl32 l ++ tl32 m := by
  induction l with
  | nil => rfl
  | cons x l ih => show 32 :: x ++ tl32 (l ++ m) = 32 :: x ++ tl32 l ++ tl32 m; rw [ih, List.append_assoc]
theorem jn_snoc (l : List (List UInt8)) (y : List UInt8) : jn (l ++ [y]) = if l = [] then y else jn l ++ 32 :: y := by
  cases l with
  | nil => show y ++ [] = y; simp
  | cons x l =>
    rw [if_neg (by simp)]
    show x ++ tl32 (l ++ [y]) = x ++ tl32 l ++ 32 :: y
    rw [tl32_app, List.append_assoc]
    congr 2
    show 32 :: y ++ [] = 32 :: y
    simp
def lst (zs : List Int) : List UInt8 := jn (zs.map Lib.itoa)
theorem lst_snoc (zs : List Int) (z : Int) : lst (zs ++ [z]) = if zs = [] then Lib.itoa z else lst zs ++ 32 :: Lib.itoa z := by
  unfold lst
  rw [List.map_append]
  show jn (zs.map Lib.itoa ++ [Lib.itoa z]) = _
  rw [jn_snoc]
  simp
/-- the pieces between blanks -/
def sp : List UInt8 → List (List UInt8)
  | [] => [[]]
  | c :: r => if c = 32 then [] :: sp r else match sp r with
    | x :: xs => (c :: x) :: xs
    | [] => [[c]]
theorem sp_ne (l : List UInt8) : sp l ≠ [] := by
  cases l with
  | nil => simp [sp]
  | cons c r =>
    unfold sp; split
    · simp
    · split <;> simp
theorem sp_plain : ∀ {l : List UInt8}, (∀ c ∈ l, c ≠ 32) → sp l = [l]
  | [], _ => rfl
  | c :: r, h => by
    unfold sp
    rw [if_neg (h c (by simp)), sp_plain (fun d hd => h d (by simp [hd]))]
theorem sp_cut : ∀ {l : List UInt8} (r : List UInt8), (∀ c ∈ l, c ≠ 32) → sp (l ++ 32 :: r) = l :: sp r
  | [], r, _ => by show sp (32 :: r) = [] :: sp r; rw [sp, if_pos rfl]
  | c :: l, r, h => by
    have ih := sp_cut (l := l) r (fun d hd => h d (by simp [hd]))
    show sp (c :: (l ++ 32 :: r)) = _
    rw [sp, if_neg (h c (by simp)), ih]
theorem jn_sp : ∀ l : List UInt8, jn (sp l) = l
  | [] => rfl
  | c :: r => by
    have ih := jn_sp r
    have hn := sp_ne r
    unfold sp
    split
    · rename_i hc
      subst hc
      generalize sp r = s at ih hn
      cases s with
      | nil => exact absurd rfl hn
      | cons x xs =>
        show [] ++ (32 :: x ++ tl32 xs) = 32 :: r
        rw [List.nil_append]
        show 32 :: (x ++ tl32 xs) = 32 :: r
        exact congrArg _ ih
    · generalize sp r = s at ih hn
      cases s with
      | nil => exact absurd rfl hn
      | cons x xs =>
        show c :: (x ++ tl32 xs) = c :: r
        exact congrArg _ ih
theorem sp_jn : ∀ {xs : List (List UInt8)}, xs ≠ [] → (∀ x ∈ xs, ∀ c ∈ x, c ≠ 32) → sp (jn xs) = xs
  | [], h, _ => absurd rfl h
  | [x], _, h => by
    show sp (x ++ []) = [x]
    rw [List.append_nil]
    exact sp_plain (h x (by simp))
  | x :: y :: r, _, h => by
    show sp (x ++ (32 :: y ++ tl32 r)) = _
    rw [show (32 :: y ++ tl32 r : List UInt8) = 32 :: jn (y :: r) from rfl, sp_cut _ (h x (by simp)), sp_jn (by simp) (fun z hz => h z (by simp [hz]))]
theorem itoa_no32 (n : Int) : ∀ c ∈ Lib.itoa n, c ≠ 32 := by
  intro c hc e
  subst e
  rw [itoa_wr] at hc
  split at hc
  · rcases List.mem_cons.1 hc with hc | hc
    · exact absurd hc (by decide)
    · exact absurd (wr_dec_mem _ _ hc).1 (by decide)
  · exact absurd (wr_dec_mem _ _ hc).1 (by decide)
/-- the numbers of pieces, up to the first fault -/
def plA : List Int → List (List UInt8) → Lib.NumEnd (List Int)
  | acc, [] => .ok acc
  | acc, x :: r => match parseI x with
    | .ok n => plA (acc ++ [n]) r
    | .syntax => .syntax
    | .range => .range
def parseL (l : List UInt8) : Lib.NumEnd (List Int) := if l = [] then .ok [] else plA [] (sp l)
theorem plA_itoa : ∀ (zs acc : List Int), (∀ z ∈ zs, In64 z) → plA acc (zs.map Lib.itoa) = .ok (acc ++ zs)
  | [], acc, _ => by simp [plA]
  | z :: zs, acc, h => by
    show plA acc (Lib.itoa z :: zs.map Lib.itoa) = _
    unfold plA
    rw [parseI_itoa (h z (by simp))]
    show plA (acc ++ [z]) (zs.map Lib.itoa) = _
    rw [plA_itoa zs _ (fun y hy => h y (by simp [hy]))]
    simp
theorem plA_uniq : ∀ (xs : List (List UInt8)) (acc zs : List Int), plA acc xs = .ok zs → ∃ ys, zs = acc ++ ys ∧ xs = ys.map Lib.itoa ∧ ∀ y ∈ ys, In64 y
  | [], acc, zs, h => by cases h; exact ⟨[], by simp, rfl, by simp⟩
  | x :: r, acc, zs, h => by
    unfold plA at h
    split at h
    · rename_i n hn
      obtain ⟨ys, h1, h2, h3⟩ := plA_uniq r _ _ h
      exact ⟨n :: ys, by rw [h1]; simp, by rw [h2, ← parseI_uniq hn]; rfl, by intro y hy; rcases List.mem_cons.1 hy with rfl | hy; exact parseI_in hn; exact h3 y hy⟩
    · cases h
    · cases h
theorem wr_len (b u : Nat) : 0 < (wrn b u).length := List.length_pos_iff.2 (wr_ne b u)
theorem itoa_ne (z : Int) : Lib.itoa z ≠ [] := by
  rw [itoa_wr]; split
  · simp
  · exact wr_ne _ _
theorem lst_ne {zs : List Int} (h : zs ≠ []) : lst zs ≠ [] := by
  cases zs with
  | nil => exact absurd rfl h
  | cons z zs =>
    show Lib.itoa z ++ tl32 (zs.map Lib.itoa) ≠ []
    have := itoa_ne z
    simp [this]
theorem parseL_lst {zs : List Int} (h : ∀ z ∈ zs, In64 z) : parseL (lst zs) = .ok zs := by
  unfold parseL
  by_cases h0 : zs = []
  · subst h0; rfl
  · rw [if_neg (lst_ne h0)]
    unfold lst
    rw [sp_jn (by simpa using h0) (fun x hx => by obtain ⟨z, -, rfl⟩ := List.mem_map.1 hx; exact itoa_no32 z), plA_itoa zs [] h]
    rfl
theorem parseL_uniq {l : List UInt8} {zs : List Int} (h : parseL l = .ok zs) : lst zs = l ∧ ∀ z ∈ zs, In64 z := by
  unfold parseL at h
  split at h
  · rename_i h0
    cases h
    exact ⟨by rw [h0]; rfl, by simp⟩
  · obtain ⟨ys, h1, h2, h3⟩ := plA_uniq _ _ _ h
    rw [List.nil_append] at h1
    subst h1
    refine ⟨?_, h3⟩
    unfold lst
    rw [← h2, jn_sp]
end Go.Proofs.YtneidfbgdgegjaaGreatDoor
