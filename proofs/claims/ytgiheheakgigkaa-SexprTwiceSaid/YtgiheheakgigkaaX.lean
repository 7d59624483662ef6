/- Print: what a tree prints as; the reference's Print. -/
import Derived.Test.YtgiheheakgigkaaO
namespace Go.Proofs.Ytgiheheakgigkaa
open Go.RowKit
set_option linter.unusedVariables false
set_option linter.unusedSimpArgs false
mutual
/-- what a tree prints as -/
def prT : T → ByteArray
  | .mk a ts => if a.size = 0 then prL ⟨#[40]⟩ true ts ++ ⟨#[41]⟩ else a
def prL : ByteArray → Bool → List T → ByteArray
  | acc, _, [] => acc
  | acc, first, t :: ts => prL ((if first then acc else acc ++ ⟨#[32]⟩) ++ prT t) false ts
end
theorem prT_mk (a : ByteArray) (ts : List T) : prT (.mk a ts) = if a.size = 0 then prL ⟨#[40]⟩ true ts ++ ⟨#[41]⟩ else a := by rw [prT]
theorem prL_nil (acc : ByteArray) (f : Bool) : prL acc f [] = acc := by rw [prL]
theorem prL_cons (acc : ByteArray) (f : Bool) (t : T) (ts : List T) : prL acc f (t :: ts) = prL ((if f then acc else acc ++ ⟨#[32]⟩) ++ prT t) false ts := by rw [prL]
theorem prT_pos (t : T) : 1 ≤ (prT t).size := by
  cases t with
  | mk a ts =>
    rw [prT_mk]
    split
    · rw [ByteArray.size_append]; show 1 ≤ _ + 1; omega
    · omega
theorem prL_ge : ∀ (ts : List T) (acc : ByteArray) (f : Bool), acc.size + ts.length ≤ (prL acc f ts).size
  | [], acc, f => by rw [prL_nil]; exact Nat.le_refl _
  | t :: ts, acc, f => by
    rw [prL_cons]
    refine Nat.le_trans ?_ (prL_ge ts _ false)
    have := prT_pos t
    cases f <;> simp [ByteArray.size_append] <;> omega
theorem empty_str (a : ByteArray) (h : a.size ≠ 0) : a.toList.isEmpty = false := by
  rw [ByteArray.toList_eq]
  obtain ⟨⟨l⟩⟩ := a
  cases l with
  | nil => exact absurd rfl h
  | cons x l => rfl
set_option maxRecDepth 100000 in
set_option maxHeartbeats 4000000 in
theorem ref19 (t : T) : ∀ (w : World) (p : Option Addr) (c : Nat), RowD (mem 0 w) w p c t.ts → (prT t).size ≤ 1000000 → Calls Try.prog 19 #[.agg #[.string t.a, .slice p t.ts.length c]] w fun e w' => e = .returned (.string (prT t)) ∧ BK w w' := by
  induction t using T.ind with
  | h a ts ih =>
    intro w p c hr0 hz
    show Calls Try.prog 19 #[.agg #[.string a, .slice p ts.length c]] w _
    have hr : RowD (mem 0 w) w p c ts := hr0
    clear hr0
    rw [prT_mk] at hz ⊢
    have K0 := Lib.hid (bk_alloc (BK.refl w) (.cells #[.string a, .slice p ts.length c] 25))
    have NB := Lib.hid (heap_alloc_new w (.cells #[.string a, .slice p ts.length c] 25))
    by_cases ha : a.size = 0
    · rw [if_pos ha] at hz ⊢
      have ea : a = ⟨#[]⟩ := by
        obtain ⟨⟨l⟩⟩ := a
        cases l with
        | nil => rfl
        | cons x l => simp [ByteArray.size] at ha
      subst ea
      clear ha
      rw [ByteArray.size_append] at hz
      have HZ := Lib.hid (show (prL ⟨#[40]⟩ true ts).size ≤ 1000000 from by omega)
      have HL := Lib.hid (show ts.length ≤ 1000000 from by have := prL_ge ts ⟨#[40]⟩ true; omega)
      have HR := Lib.hid hr
      have IH := Lib.hid ih
      have E0 := Lib.hid (show prL ⟨#[40]⟩ (decide (0 = 0)) (ts.drop 0) = prL ⟨#[40]⟩ true ts from rfl)
      clear hz hr ih
      generalize prL ⟨#[40]⟩ true ts = FULL at *
      go_enter Try.func19, Try.ntmps19
      go_wp2_with fail
      generalize hw1 : w.alloc (.cells #[.string ⟨#[]⟩, .slice p ts.length c] 25) = w1 at *
      clear hw1
      go_loopw [3, 4] (fun o iv wr => ∃ (k : Nat) (acc : ByteArray), k ≤ ts.length ∧ o = .string acc ∧ iv = .int .i64 (k : Int) ∧ prL acc (decide (k = 0)) (ts.drop k) = FULL ∧ BK w1 wr) (fun _ iv _ => ts.length - (intOf iv).toNat)
      case atStart => exact ⟨0, _, Nat.zero_le _, rfl, rfl, E0.out, BK.refl _⟩
      case round =>
        obtain ⟨k, acc, hk, rfl, rfl, heq, hb⟩ := hrel
        have EQ := Lib.hid heq
        have KB := Lib.hid hb
        have B2 := Lib.hid ((bk_block hb (Array.getElem?_eq_some_iff.1 NB.out).1).trans NB.out)
        have x0 := cell_of_row _ w.heap.size 0 _ 25 (0, 0) B2.out
        have x1 := cell_of_row _ w.heap.size 1 _ 25 (0, 0) B2.out
        clear heq hb
        by_cases e : k = ts.length
        · have hd : decide (k < ts.length) = false := by simp [e]
          have EQ2 := EQ.out
          rw [List.drop_of_length_le (by omega), prL_nil] at EQ2
          subst EQ2
          have hsz := HZ.out
          subst e
          go_wp2_with fail
          go_ret
          exact ⟨rfl, bk_tr K0.out KB.out⟩
        · have hlt : k < ts.length := by omega
          have hd : decide (k < ts.length) = true := by simpa using hlt
          obtain ⟨b, o, a', us, q, d, rfl, hbD, he, z0, z1, hrr⟩ := ((HR.out.bk K0.out (Nat.le_refl _)).bk KB.out (Nat.le_refl _)).get hlt
          have EQ2 := EQ.out
          rw [List.drop_eq_getElem_cons hlt, he, prL_cons] at EQ2
          have hsz : (prT (.mk a' us)).size ≤ 1000000 := by
            have h1 := prL_ge (ts.drop (k + 1)) ((if decide (k = 0) = true then acc else acc ++ ⟨#[32]⟩) ++ prT (.mk a' us)) false
            rw [EQ2, ByteArray.size_append] at h1
            have := HZ.out
            omega
          have IC := Lib.hid (by have := IH.out ts[k] (List.getElem_mem hlt) wr q d (by rw [he]; exact hrr) (by rw [he]; exact hsz); rw [he] at this; exact this)
          have IC2 := Lib.hid (show Calls Try.prog 19 #[.agg #[.string a', .slice q us.length d]] wr _ from IC.out)
          have EQ3 := Lib.hid EQ2
          have HLT := Lib.hid hlt
          have ei : IntKind.i64.wrap ((k : Int) + 1) = (k : Int) + 1 := by have := HL.out; exact IntWalk.i64_in _ (by omega)
          have hki : (k : Int) < (ts.length : Int) := by omega
          have hacc : acc.size ≤ 1000000 := by
            have h1 := prL_ge (ts.drop (k + 1)) ((if decide (k = 0) = true then acc else acc ++ ⟨#[32]⟩) ++ prT (.mk a' us)) false
            rw [EQ2, ByteArray.size_append] at h1
            have := HZ.out
            split at h1
            · omega
            · rw [ByteArray.size_append] at h1; omega
          clear hrr he hbD e EQ2 IC
          generalize prT (.mk a' us) = PT at *
          by_cases hk0 : k = 0
          · subst hk0
            simp only [Nat.zero_mul, Nat.add_zero] at z0 z1
            go_wp2_with fail
            refine IC2.out.mono ?_
            rintro e w2 ⟨rfl, hb2⟩
            have K2 := Lib.hid (bk_tr KB.out hb2)
            go_wp2_with fail
            go_roundw
            case rel => exact ⟨1, _, by have := HLT.out; omega, rfl, rfl, EQ3.out, K2.out⟩
            case measure => have := HLT.out; simp [intOf]; omega
          · have hk1 : (0 : Int) < (k : Int) := by omega
            have EQ4 := Lib.hid (show prL ((acc ++ ⟨#[32]⟩) ++ PT) false (ts.drop (k + 1)) = FULL from by have := EQ3.out; rw [if_neg (by simpa using hk0)] at this; exact this)
            have K0N := Lib.hid hk0
            clear hk0
            go_wp2_with fail
            refine IC2.out.mono ?_
            rintro e w2 ⟨rfl, hb2⟩
            have K2 := Lib.hid (bk_tr KB.out hb2)
            go_wp2_with fail
            go_roundw
            case rel => exact ⟨k + 1, _, by have := HLT.out; omega, rfl, by go_num, EQ4.out, K2.out⟩
            case measure => have := HLT.out; simp [intOf]; omega
    · rw [if_neg ha] at hz ⊢
      have he := empty_str a ha
      clear ha
      go_enter Try.func19, Try.ntmps19
      go_wp2_with fail
      go_ret
      exact ⟨rfl, K0.out⟩
end Go.Proofs.Ytgiheheakgigkaa
