/- The table of kinds; isKind, Refs, Kind; hasForm. -/
import Derived.Test.YtnlpiaejfmdckaaDoorA
namespace Go.Proofs.YtnlpiaejfmdckaaDoor
open Go.RowKit
set_option linter.unusedVariables false
set_option linter.unusedSimpArgs false
theorem ne_cast {c d : Nat} (h : c ≠ d) : ((c : Int) == (d : Int)) = false := by simp; omega
theorem nn_cast {c d : Nat} (h : c ≠ d) : ((c : Int) != (d : Int)) = true := by simp; omega
def lsK (n : Nat) : Int := ([0, 0, 1, 2, 0, 0, 0, 0, 0, 2, 2, 1, 0] : List Int).getD n 0
def msK (n : Nat) : Int := ([0, 0, 1, 2, 3, 12, 0, 0, 3, 2, 2, 1, 0] : List Int).getD n 0
def nmL : List ByteArray := [⟨#[]⟩, ⟨#[114, 101, 102, 108]⟩, ⟨#[115, 121, 109]⟩, ⟨#[116, 114, 97, 110, 115]⟩, ⟨#[99, 111, 110, 103]⟩, ⟨#[114, 117, 108, 101]⟩, ⟨#[102, 111, 108, 100]⟩, ⟨#[116, 111, 112]⟩, ⟨#[110, 111, 100, 101]⟩, ⟨#[109, 101, 101, 116]⟩, ⟨#[109, 111, 118, 101]⟩, ⟨#[115, 105, 110, 103, 108, 101]⟩, ⟨#[103, 105, 118, 101, 110]⟩]
def nmK (n : Nat) : ByteArray := nmL.getD n ⟨#[]⟩
/-- the table of kinds stands in block 0 -/
def Tb (w : World) : Prop := ∀ n, n < 13 → w.cell? ⟨0, n * 3, none⟩ = some (.string (nmK n)) ∧ w.cell? ⟨0, n * 3 + 1, none⟩ = some (.int .i64 (lsK n)) ∧ w.cell? ⟨0, n * 3 + 2, none⟩ = some (.int .i64 (msK n))
theorem Tb.bk {w w' : World} (h : Tb w) (hb : BK w w') : Tb w' := fun n hn => by
  obtain ⟨h0, h1, h2⟩ := h n hn
  exact ⟨cellBk h0 hb, cellBk h1 hb, cellBk h2 hb⟩
def isK (k : Int) : Bool := if 0 < k ∧ k < 13 then true else false
def leastK (k : Int) : Int := if isK k = true then lsK k.toNat else -1
def mostK (k : Int) : Int := if isK k = true then msK k.toNat else -1
def nameK (k : Int) : ByteArray := if isK k = true then nmK k.toNat else ⟨#[]⟩
set_option maxHeartbeats 1000000 in
theorem isk31 (k : Int) (w : World) : Calls Tryd.prog 31 #[.int .i64 k] w fun e w' => e = .returned (.bool (isK k)) ∧ w = w' := by
  by_cases h0 : 0 < k
  · by_cases h1 : k < 13
    · rw [show isK k = true from if_pos ⟨h0, h1⟩]
      go_enter Tryd.func31, Tryd.ntmps31
      go_wp2_with fail
      go_ret
      exact ⟨ret_bool (by simp [h1]), rfl⟩
    · rw [show isK k = false from if_neg (fun h => h1 h.2)]
      go_enter Tryd.func31, Tryd.ntmps31
      go_wp2_with fail
      go_ret
      exact ⟨ret_bool (by simp [h1]), rfl⟩
  · rw [show isK k = false from if_neg (fun h => h0 h.1)]
    go_enter Tryd.func31, Tryd.ntmps31
    go_wp2_with fail
    go_ret
    exact ⟨rfl, rfl⟩
set_option maxRecDepth 100000 in
set_option maxHeartbeats 2000000 in
theorem refs8 (k : Int) (w : World) (ht : Tb w) : Calls Tryd.prog 8 #[.int .i64 k] w fun e w' => e = .returned (.tuple #[.int .i64 (leastK k), .int .i64 (mostK k)]) ∧ BK w w' := by
  have I31 := Lib.hid (fun w => isk31 k w)
  unfold leastK mostK
  cases hb : isK k with
  | false =>
    rw [hb] at I31
    rw [if_neg (by decide), if_neg (by decide)]
    clear hb ht
    go_enter Tryd.func8, Tryd.ntmps8
    go_wp2_with fail
    refine (I31.out _).mono ?_
    rintro e w' ⟨rfl, rfl⟩
    go_wp2_with fail
    go_ret2
    exact ⟨rfl, BK.refl _⟩
  | true =>
    rw [hb] at I31
    rw [if_pos rfl, if_pos rfl]
    obtain ⟨n, rfl, hn⟩ : ∃ n : Nat, k = (n : Int) ∧ n < 13 := by
      unfold isK at hb
      split at hb
      · exact ⟨k.toNat, by omega, by omega⟩
      · cases hb
    obtain ⟨t0, t1, t2⟩ := ht n hn
    rw [Int.toNat_natCast]
    clear hb ht
    generalize lsK n = l at *
    generalize msK n = m at *
    go_enter Tryd.func8, Tryd.ntmps8
    go_wp2_with fail
    refine (I31.out _).mono ?_
    rintro e w' ⟨rfl, rfl⟩
    go_wp2_with fail
    go_quiet (fail)
    go_wp2_with fail
    go_ret2
    exact ⟨rfl, bk_drewN (BK.refl _) _⟩
set_option maxRecDepth 100000 in
set_option maxHeartbeats 2000000 in
theorem kind10 (k : Int) (w : World) (ht : Tb w) : Calls Tryd.prog 10 #[.int .i64 k] w fun e w' => e = .returned (.string (nameK k)) ∧ BK w w' := by
  have I31 := Lib.hid (fun w => isk31 k w)
  unfold nameK
  cases hb : isK k with
  | false =>
    rw [hb] at I31
    rw [if_neg (by decide)]
    clear hb ht
    go_enter Tryd.func10, Tryd.ntmps10
    go_wp2_with fail
    refine (I31.out _).mono ?_
    rintro e w' ⟨rfl, rfl⟩
    go_wp2_with fail
    go_ret
    exact ⟨rfl, BK.refl _⟩
  | true =>
    rw [hb] at I31
    rw [if_pos rfl]
    obtain ⟨n, rfl, hn⟩ : ∃ n : Nat, k = (n : Int) ∧ n < 13 := by
      unfold isK at hb
      split at hb
      · exact ⟨k.toNat, by omega, by omega⟩
      · cases hb
    obtain ⟨t0, t1, t2⟩ := ht n hn
    rw [Int.toNat_natCast]
    clear hb ht
    generalize nmK n = l at *
    go_enter Tryd.func10, Tryd.ntmps10
    go_wp2_with fail
    refine (I31.out _).mono ?_
    rintro e w' ⟨rfl, rfl⟩
    go_wp2_with fail
    go_ret
    exact ⟨rfl, BK.refl _⟩
/-! hasForm -/
def allB (i : Int) : List Int → Bool
  | [] => true
  | r :: rs => if 0 ≤ r ∧ r < i then allB i rs else false
theorem allB_cons (i r : Int) (rs : List Int) : allB i (r :: rs) = if 0 ≤ r ∧ r < i then allB i rs else false := rfl
def okN (s : S) : Bool := if s.k = 4 ∨ s.k = 8 then (if s.rf.length = s.a.ts.length ∧ s.rf.length ≤ 3 then true else false) else if leastK s.k ≤ (s.rf.length : Int) ∧ (s.rf.length : Int) ≤ mostK s.k then true else false
def wellB (s : S) (i : Nat) : Bool := if okN s = true then allB (i : Int) s.rf else false
set_option maxHeartbeats 1000000 in
theorem out53 (r i : Int) (ib : Nat) (w : World) (hi : w.cell? ⟨ib, 0, none⟩ = some (.int .i64 i)) : Calls Tryd.prog 53 #[.int .i64 r, .pointer (some ⟨ib, 0, none⟩)] w fun e w' => e = .returned (.bool (if 0 ≤ r ∧ r < i then false else true)) ∧ w = w' := by
  by_cases h0 : 0 ≤ r
  · have h0' : ¬ r < 0 := by omega
    by_cases h1 : r < i
    · rw [if_pos ⟨h0, h1⟩]
      have h2 : ¬ i ≤ r := by omega
      go_enter Tryd.func53, Tryd.ntmps53
      go_wp2_with fail
      go_ret
      exact ⟨ret_bool (by simp [h2]), rfl⟩
    · rw [if_neg (fun h => h1 h.2)]
      have h2 : i ≤ r := by omega
      go_enter Tryd.func53, Tryd.ntmps53
      go_wp2_with fail
      go_ret
      exact ⟨ret_bool (by simp [h2]), rfl⟩
  · rw [if_neg (fun h => h0 h.1)]
    have h0' : r < 0 := by omega
    go_enter Tryd.func53, Tryd.ntmps53
    go_wp2_with fail
    go_ret
    exact ⟨rfl, rfl⟩
set_option maxRecDepth 100000 in
set_option maxHeartbeats 2000000 in
theorem index64 (zs : List Int) (hl : zs.length ≤ 9223372036854775807) (i : Int) (ib : Nat) (w : World) (hi : w.cell? ⟨ib, 0, none⟩ = some (.int .i64 i)) (p : Option Addr) (c : Nat) (hp : RowI (mem 0 w) w p c zs) : Calls Tryd.prog 64 #[.slice p zs.length c, .func (.func 53) #[] #[.pointer (some ⟨ib, 0, none⟩)]] w fun e w' => (∃ z : Int, e = .returned (.int .i64 z) ∧ (if allB i zs = true then z = -1 else 0 ≤ z)) ∧ w = w' := by
  have HP := Lib.hid hp
  have HL := Lib.hid hl
  have O53 := Lib.hid (fun r => out53 r i ib w hi)
  clear hp hl
  generalize hr : allB i zs = r
  have HR := Lib.hid hr
  clear hr
  go_enter Tryd.func64, Tryd.ntmps64
  go_wp2_with fail
  go_loopw [8] (fun iv wr => ∃ (k : Nat), k ≤ zs.length ∧ iv = .int .i64 (k : Int) ∧ allB i (zs.drop k) = r ∧ w = wr) (fun iv _ => zs.length - (intOf iv).toNat)
  case atStart => exact ⟨0, Nat.zero_le _, rfl, HR.out, rfl⟩
  case round =>
    obtain ⟨k, hk, rfl, heq, rfl⟩ := hrel
    have EQ := Lib.hid heq
    clear heq
    by_cases e : k = zs.length
    · have hd : decide (k < zs.length) = false := by simp [e]
      have EQ2 := EQ.out
      rw [List.drop_of_length_le (by omega)] at EQ2
      have EQ3 : r = true := EQ2.symm
      subst EQ3
      subst e
      go_wp2_with fail
      go_ret
      first | exact ⟨⟨-1, rfl, rfl⟩, rfl⟩ | exact ⟨by simp, rfl⟩ | exact ⟨rfl, rfl⟩
    · have hlt : k < zs.length := by omega
      have hd : decide (k < zs.length) = true := by simpa using hlt
      obtain ⟨b, o, rfl, -, z0⟩ := HP.out.get hlt
      have EQ2 := EQ.out
      rw [List.drop_eq_getElem_cons hlt, allB_cons] at EQ2
      have CC := Lib.hid (O53.out zs[k])
      have EQ3 := Lib.hid EQ2
      have ei : IntKind.i64.wrap ((k : Int) + 1) = (k : Int) + 1 := by have := HL.out; exact IntWalk.i64_in _ (by omega)
      have hki : (k : Int) < (zs.length : Int) := by omega
      have HLT := Lib.hid hlt
      clear e EQ2
      generalize zs[k] = zk at *
      by_cases hz : 0 ≤ zk ∧ zk < i
      · rw [if_pos hz] at CC
        have EQ4 := Lib.hid (show allB i (zs.drop (k + 1)) = r from by have := EQ3.out; rwa [if_pos hz] at this)
        clear hz
        go_wp2_with fail
        refine CC.out.mono ?_
        rintro e w2 ⟨rfl, rfl⟩
        go_wp2_with fail
        go_roundw
        case rel => exact ⟨k + 1, by have := HLT.out; omega, by go_num, EQ4.out, by first | rfl | trivial⟩
        case measure => have := HLT.out; simp [intOf]; omega
      · rw [if_neg hz] at CC
        have EQ4 : r = false := by have := EQ3.out; rw [if_neg hz] at this; exact this.symm
        subst EQ4
        clear hz
        go_wp2_with fail
        refine CC.out.mono ?_
        rintro e w2 ⟨rfl, rfl⟩
        go_wp2_with fail
        go_ret
        first | exact ⟨⟨(k : Int), rfl, by simp⟩, rfl⟩ | exact ⟨by simp, rfl⟩
set_option maxRecDepth 100000 in
set_option maxHeartbeats 2000000 in
theorem contains52 (zs : List Int) (hl : zs.length ≤ 9223372036854775807) (i : Int) (ib : Nat) (w : World) (hi : w.cell? ⟨ib, 0, none⟩ = some (.int .i64 i)) (p : Option Addr) (c : Nat) (hp : RowI (mem 0 w) w p c zs) : Calls Tryd.prog 52 #[.slice p zs.length c, .func (.func 53) #[] #[.pointer (some ⟨ib, 0, none⟩)]] w fun e w' => e = .returned (.bool (!allB i zs)) ∧ w = w' := by
  have CC := Lib.hid (index64 zs hl i ib w hi p c hp)
  clear hp hl
  generalize allB i zs = r at *
  go_enter Tryd.func52, Tryd.ntmps52
  go_wp2_with fail
  refine CC.out.mono ?_
  rintro e w2 ⟨⟨z, rfl, hz⟩, rfl⟩
  cases r with
  | false =>
    rw [if_neg (by decide)] at hz
    go_wp2_with fail
    go_ret
    exact ⟨ret_bool (by simp [hz]), rfl⟩
  | true =>
    rw [if_pos rfl] at hz
    subst hz
    go_wp2_with fail
    go_ret
    exact ⟨rfl, rfl⟩
end Go.Proofs.YtnlpiaejfmdckaaDoor
