/- The parser's leaves: skip, isAtomByte, atom. -/
import Derived.Test.YtgiheheakgigkaaA
namespace Go.Proofs.Ytgiheheakgigkaa
open Go.RowKit
set_option linter.unusedVariables false
set_option linter.unusedSimpArgs false
/-- a text -/
def xo (s : ByteArray) : X := ⟨s.size, fun i => if h : i < s.size then (s[i]'h).toNat else 0, fun i j => s.extract i j⟩
theorem xo_n (s : ByteArray) : (xo s).n = s.size := rfl
theorem xo_f {s : ByteArray} {i : Nat} (h : i < s.size) : (xo s).f i = (s[i]'h).toNat := dif_pos h
theorem idx9 {s : ByteArray} {i : Nat} (h : i < s.size) (w : World) : (Instr.index 9 (.string s) (.int .i64 (i : Int))).run Try.prog w = .ok (.int .u8 (((xo s).f i : Nat) : Int)) w := by
  rw [run_index_string w 9 s .i64 (i : Int) Try.underlying9, dif_pos ⟨by omega, by omega⟩, xo_f h]
  simp only [Int.toNat_natCast]
/-- the parser's box -/
def PB (w : World) (pb : Nat) (s : ByteArray) (i : Nat) : Prop := w.heap[pb]? = some (.cells #[.string s, .int .i64 (i : Int)] 51 (0, 0))
theorem PB.c0 {w : World} {pb i : Nat} {s : ByteArray} (h : PB w pb s i) : w.cell? ⟨pb, 0, none⟩ = some (.string s) := cell_of_row w pb 0 _ 51 (0, 0) h
theorem PB.c1 {w : World} {pb i : Nat} {s : ByteArray} (h : PB w pb s i) : w.cell? ⟨pb, 1, none⟩ = some (.int .i64 (i : Int)) := cell_of_row w pb 1 _ 51 (0, 0) h
theorem PB.fr {w : World} {pb i : Nat} {s : ByteArray} (h : PB w pb s i) (j : Nat) : w.frozen? ⟨pb, j, none⟩ = false := frozen_of_row w pb j _ 51 h
theorem PB.lt {w : World} {pb i : Nat} {s : ByteArray} (h : PB w pb s i) : pb < w.heap.size := (Array.getElem?_eq_some_iff.1 h).1
theorem PB.bk {w w' : World} {pb i : Nat} {s : ByteArray} (h : PB w pb s i) (hb : BK w w') : PB w' pb s i := (bk_block hb h.lt).trans h
theorem PB.drewN {w : World} {pb i : Nat} {s : ByteArray} (h : PB w pb s i) (n : Nat) : PB (w.drewN n) pb s i := h
theorem PB.set {w : World} {pb i : Nat} {s : ByteArray} (h : PB w pb s i) (j : Nat) : PB (w.setCell ⟨pb, 1, none⟩ (.int .i64 (j : Int))) pb s j := by
  unfold PB
  rw [heap_setCell_same w pb 1 _ 51 _ h]
  rfl
theorem step_drewN {w : World} {F : Nat → Prop} (n : Nat) : Step w (w.drewN n) F F := ⟨rfl, rfl, rfl, Nat.le_refl _, fun _ _ _ => rfl, fun _ h => .inl h⟩
theorem f_lt (s : ByteArray) (i : Nat) : (xo s).f i < 256 := by
  show (if h : i < s.size then (s[i]'h).toNat else 0) < 256
  split
  · exact (s[i]).toNat_lt
  · omega
def posOf (pb : Nat) (w : World) : Nat := match w.cell? ⟨pb, 1, none⟩ with | some (.int _ z) => z.toNat | _ => 0
theorem posOf_eq {w : World} {pb i : Nat} {s : ByteArray} (h : PB w pb s i) : posOf pb w = i := by
  unfold posOf
  rw [h.c1]
  rfl
theorem ne_cast {c d : Nat} (h : c ≠ d) : ((c : Int) == (d : Int)) = false := by
  rw [beq_eq_false_iff_ne]; omega
theorem nn_cast {c d : Nat} (h : c ≠ d) : ((c : Int) != (d : Int)) = true := by
  rw [bne_iff_ne]; omega
/-- what skip leaves -/
def SKP (w : World) (pb : Nat) (s : ByteArray) (j : Nat) (e : Ending) (w' : World) : Prop := e = .returned (.bool (decide (j < s.size))) ∧ PB w' pb s j ∧ Step w w' (oneF pb) (oneF pb)
set_option maxRecDepth 100000 in
set_option maxHeartbeats 2000000 in
theorem skip35 (w : World) (pb : Nat) (s : ByteArray) (i : Nat) (h : PB w pb s i) (hs : s.size ≤ 100000) (hi : i ≤ s.size) : Calls Try.prog 35 #[.pointer (some ⟨pb, 0, none⟩)] w (SKP w pb s (sk (xo s) false i)) := by
  have HP := Lib.hid h
  clear h
  generalize hj : sk (xo s) false i = j
  have HJ := Lib.hid hj
  clear hj
  go_enter Try.func35, Try.ntmps35
  go_wp2_with fail
  go_loopw [3] (fun a wr => ∃ k cm, a = .bool cm ∧ k ≤ s.size ∧ sk (xo s) cm k = j ∧ PB wr pb s k ∧ Step w wr (oneF pb) (oneF pb)) (fun _ wr => s.size - posOf pb wr)
  case atStart => exact ⟨i, false, rfl, hi, HJ.out, HP.out, Step.refl _ _⟩
  case round =>
    obtain ⟨k, cm, rfl, hk, hsk, hp, hst⟩ := hrel
    have SK := Lib.hid hsk
    have PP := Lib.hid hp
    have ST := Lib.hid hst
    have c0 := hp.c0
    have c1 := hp.c1
    clear hsk hp hst
    have LN := Lib.hid (posOf_eq PP.out)
    by_cases e : k = s.size
    · have hd : decide (k < s.size) = false := by simp [e]
      have E := SK.out
      rw [sk_end (by rw [xo_n, e]; exact Nat.le_refl _)] at E
      subst E
      clear e
      have HD := Lib.hid hd
      go_wp2_with fail
      go_quiet (fail)
      go_wp2_with fail
      go_ret
      exact ⟨ret_bool HD.out.symm, PP.out.drewN _, ST.out.trans (step_drewN _)⟩
    · have hks : k < s.size := by omega
      have hd : decide (k < s.size) = true := by simpa using hks
      have hx := idx9 hks
      have SS := Lib.hid (sk_step (x := xo s) (cm := cm) (i := k) hks)
      have ei : IntKind.i64.wrap ((k : Int) + 1) = (k : Int) + 1 := IntWalk.i64_in _ (by omega)
      have fr1 := PP.out.fr 1
      have PN := Lib.hid (fun q1 => show PB ((wr.drewN q1).setCell ⟨pb, 1, none⟩ (.int .i64 ((k : Int) + 1))) pb s (k + 1) from (PP.out.drewN q1).set (k + 1))
      have HKS := Lib.hid hks
      have HD := Lib.hid hd
      clear hks e
      generalize hc : (xo s).f k = c at *
      have HC := Lib.hid hc
      clear hc
      go_wp2_with fail
      go_quiet (fail)
      go_wp2_with fail
      go_quiet (fail)
      have EQ := SS.out
      rw [SK.out] at EQ
      have EQH := Lib.hid EQ
      clear EQ SS
      by_cases h10 : c = 10
      · subst h10
        go_wp2_with fail
        go_roundw
        case rel => exact ⟨k + 1, false, rfl, by have := HKS.out; omega, by have := EQH.out; rw [if_pos rfl] at this; exact this.symm, PN.out _, ST.out.trans ((step_drewN _).trans (step_set 1 _))⟩
        case measure => rw [posOf_eq (PN.out _), LN.out]; have := HKS.out; omega
      · by_cases h59 : c = 59
        · subst h59
          go_wp2_with fail
          go_roundw
          case rel => exact ⟨k + 1, true, rfl, by have := HKS.out; omega, by have := EQH.out; rw [if_neg (by decide), if_pos rfl] at this; exact this.symm, PN.out _, ST.out.trans ((step_drewN _).trans (step_set 1 _))⟩
          case measure => rw [posOf_eq (PN.out _), LN.out]; have := HKS.out; omega
        · have q10 := ne_cast h10
          have q59 := ne_cast h59
          cases cm with
          | true =>
            go_wp2_with fail
            go_roundw
            case rel => exact ⟨k + 1, true, rfl, by have := HKS.out; omega, by have := EQH.out; rw [if_neg h10, if_neg h59, if_neg (by simp)] at this; exact this.symm, PN.out _, ST.out.trans ((step_drewN _).trans (step_set 1 _))⟩
            case measure => rw [posOf_eq (PN.out _), LN.out]; have := HKS.out; omega
          | false =>
            by_cases hb : bl c = true
            · have hb' : c = 32 ∨ c = 9 ∨ c = 13 := by
                unfold bl at hb
                split at hb
                · assumption
                · cases hb
              have E2 := Lib.hid (show sk (xo s) false (k + 1) = j from by have := EQH.out; rw [if_neg h10, if_neg h59, if_neg (by rw [hb]; simp)] at this; exact this.symm)
              clear hb EQH
              rcases hb' with rfl | rfl | rfl
              · go_wp2_with fail
                go_roundw
                case rel => exact ⟨k + 1, false, rfl, by have := HKS.out; omega, by exact E2.out, PN.out _, ST.out.trans ((step_drewN _).trans (step_set 1 _))⟩
                case measure => rw [posOf_eq (PN.out _), LN.out]; have := HKS.out; omega
              · go_wp2_with fail
                go_roundw
                case rel => exact ⟨k + 1, false, rfl, by have := HKS.out; omega, by exact E2.out, PN.out _, ST.out.trans ((step_drewN _).trans (step_set 1 _))⟩
                case measure => rw [posOf_eq (PN.out _), LN.out]; have := HKS.out; omega
              · go_wp2_with fail
                go_roundw
                case rel => exact ⟨k + 1, false, rfl, by have := HKS.out; omega, by exact E2.out, PN.out _, ST.out.trans ((step_drewN _).trans (step_set 1 _))⟩
                case measure => rw [posOf_eq (PN.out _), LN.out]; have := HKS.out; omega
            · have hb' : bl c = false := by simpa using hb
              have q : c ≠ 32 ∧ c ≠ 9 ∧ c ≠ 13 := by
                unfold bl at hb'
                split at hb'
                · cases hb'
                · rename_i h; exact ⟨fun e => h (.inl e), fun e => h (.inr (.inl e)), fun e => h (.inr (.inr e))⟩
              have q32 : ((c : Int) != 32) = true := nn_cast q.1
              have q9 : ((c : Int) != 9) = true := nn_cast q.2.1
              have q13 : ((c : Int) != 13) = true := nn_cast q.2.2
              have E2 := Lib.hid (show j = k from by have := EQH.out; rw [if_neg h10, if_neg h59, if_pos ⟨rfl, hb'⟩] at this; exact this)
              clear hb hb' q h10 h59 EQH
              go_wp2_with fail
              go_ret
              exact ⟨ret_bool (by rw [E2.out]; exact HD.out.symm), by rw [E2.out]; exact PP.out, ST.out.trans (step_drewN _)⟩
end Go.Proofs.Ytgiheheakgigkaa
