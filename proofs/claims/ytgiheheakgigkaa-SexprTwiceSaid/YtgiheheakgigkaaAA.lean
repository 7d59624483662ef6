/- write, Print. -/
import Derived.Test.YtgiheheakgigkaaZ
namespace Go.Proofs.Ytgiheheakgigkaa
open Go.RowKit
set_option linter.unusedVariables false
set_option linter.unusedSimpArgs false
/-- the bytes of a text -/
def bs (s : ByteArray) : List UInt8 := s.data.toList
theorem bs_app (s t : ByteArray) : bs (s ++ t) = bs s ++ bs t := by
  unfold bs; rw [ByteArray.data_append]; simp
theorem bs_len (s : ByteArray) : (bs s).length = s.size := rfl
/-- what write leaves -/
def WRP (w : World) (b : Nat) (l : List UInt8) (s : ByteArray) (e : Ending) (w' : World) : Prop := e = .returned (.tuple #[]) ∧ (∃ v', BU w' b (.pointer (some ⟨b, 0, none⟩)) v' (l ++ bs s)) ∧ Fr b w w'
theorem BU.bk {w w' : World} {b : Nat} {x v : Value} {l : List UInt8} (h : BU w b x v l) (hb : BK w w') : BU w' b x v l :=
  ⟨(bk_block hb (Array.getElem?_eq_some_iff.1 h.h).1).trans h.h, own_below h.own hb⟩
theorem BU.lt {w : World} {b : Nat} {x v : Value} {l : List UInt8} (h : BU w b x v l) : b < w.heap.size := (Array.getElem?_eq_some_iff.1 h.h).1
def low (b : Nat) : Nat → Prop := fun k => k < b
theorem RowD.fr {w w' : World} {b : Nat} {p : Option Addr} {c : Nat} {ts : List T} (h : RowD (low b) w p c ts) (f : Fr b w w') (hb : b ≤ w.heap.size) : RowD (low b) w' p c ts :=
  h.keep fun k hk => ⟨f.low k (Nat.lt_of_lt_of_le hk hb) hk, hk⟩
theorem box_far {w w' : World} {b k0 : Nat} {cs : Array Value} (h : w.heap[k0]? = some (.cells cs 25 (0, 0))) (f : Fr b w w') (hne : k0 ≠ b) : w'.heap[k0]? = some (.cells cs 25 (0, 0)) :=
  (f.far k0 (Array.getElem?_eq_some_iff.1 h).1 hne (fun cs' fr e => by rw [h] at e; simp at e)).trans h
set_option maxRecDepth 100000 in
set_option maxHeartbeats 4000000 in
theorem write38 (b : Nat) (t : T) : ∀ (w : World) (p : Option Addr) (c : Nat) (x v : Value) (l : List UInt8), BU w b x v l → adr b x → RowD (low b) w p c t.ts → l.length + (prT t).size ≤ 1000000 → Calls Try.prog 38 #[.pointer (some ⟨b, 0, none⟩), .agg #[.string t.a, .slice p t.ts.length c]] w (WRP w b l (prT t)) := by
  induction t using T.ind with
  | h a ts ih =>
    intro w p c x v l hbu hx hr0 hz
    show Calls Try.prog 38 #[_, .agg #[.string a, .slice p ts.length c]] w _
    have hr : RowD (low b) w p c ts := hr0
    clear hr0
    rw [prT_mk] at hz ⊢
    have K0 := Lib.hid (bk_alloc (BK.refl w) (.cells #[.string a, .slice p ts.length c] 25))
    have NB := Lib.hid (heap_alloc_new w (.cells #[.string a, .slice p ts.length c] 25))
    have LT := Lib.hid hbu.lt
    have BU0 := Lib.hid (hbu.bk K0.out)
    have AX := Lib.hid hx
    clear hbu hx
    by_cases ha : a.size = 0
    · rw [if_pos ha] at hz ⊢
      have ea : a = ⟨#[]⟩ := by
        obtain ⟨⟨l⟩⟩ := a
        cases l with
        | nil => rfl
        | cons x l => simp [ByteArray.size] at ha
      subst ea
      clear ha
      rw [ByteArray.size_append] at hz
      have HZ := Lib.hid (show l.length + (prL ⟨#[40]⟩ true ts).size + 1 ≤ 1000000 from by have : (⟨#[41]⟩ : ByteArray).size = 1 := rfl; omega)
      have HL := Lib.hid (show ts.length ≤ 1000000 from by have := prL_ge ts ⟨#[40]⟩ true; omega)
      have HR := Lib.hid hr
      have IH := Lib.hid ih
      have C40 := Lib.hid (show Calls Try.prog 40 #[.pointer (some ⟨b, 0, none⟩), .int .u8 40] _ _ from byte40 _ b x v l BU0.out AX.out 40 (by omega))
      have E0 := Lib.hid (show prL ⟨#[40]⟩ (decide (0 = 0)) (ts.drop 0) = prL ⟨#[40]⟩ true ts from rfl)
      clear hz hr ih
      generalize prL ⟨#[40]⟩ true ts = FULL at *
      go_enter Try.func38, Try.ntmps38
      go_wp2_with fail
      refine C40.out.mono ?_
      rintro e w1 ⟨rfl, v1, hb1, hs1⟩
      have B1 := Lib.hid hb1
      have F1 := Lib.hid ((Fr.bk K0.out).trans (Fr.step BU0.out hs1))
      have X1 := Lib.hid (box_far NB.out (Fr.step BU0.out hs1) (by have := LT.out; omega))
      have x0 := cell_of_row w1 w.heap.size 0 _ 25 (0, 0) X1.out
      have x1 := cell_of_row w1 w.heap.size 1 _ 25 (0, 0) X1.out
      clear hb1 hs1 C40 BU0
      go_wp2_with fail
      clear x0 x1
      go_loopw [18] (fun iv wr => ∃ (k : Nat) (acc : ByteArray) (v' : Value), k ≤ ts.length ∧ iv = .int .i64 (k : Int) ∧ prL acc (decide (k = 0)) (ts.drop k) = FULL ∧ BU wr b (.pointer (some ⟨b, 0, none⟩)) v' (l ++ bs acc) ∧ Fr b w wr) (fun iv _ => ts.length - (intOf iv).toNat)
      case atStart => exact ⟨0, ⟨#[40]⟩, v1, Nat.zero_le _, rfl, E0.out, B1.out, F1.out⟩
      case round =>
        obtain ⟨k, acc, v', hk, rfl, heq, hb, hf⟩ := hrel
        have EQ := Lib.hid heq
        have BB := Lib.hid hb
        have FF := Lib.hid hf
        clear heq hb hf
        by_cases e : k = ts.length
        · have hd : decide (k < ts.length) = false := by simp [e]
          have EQ2 := EQ.out
          rw [List.drop_of_length_le (by omega), prL_nil] at EQ2
          subst EQ2
          subst e
          have C41 := Lib.hid (show Calls Try.prog 40 #[.pointer (some ⟨b, 0, none⟩), .int .u8 41] _ _ from byte40 _ b _ v' _ BB.out (.inr rfl) 41 (by have := HZ.out; rw [List.length_append, bs_len]; omega))
          go_wp2_with fail
          refine C41.out.mono ?_
          rintro e w2 ⟨rfl, v2, hb2, hs2⟩
          have H2 := Lib.hid (show WRP w b l (acc ++ ⟨#[41]⟩) (.returned (.tuple #[])) w2 from ⟨rfl, ⟨v2, by rw [bs_app, ← List.append_assoc]; exact hb2⟩, FF.out.trans (Fr.step BB.out hs2)⟩)
          clear hb2 hs2
          go_wp2_with fail
          go_end0
          exact H2.out
        · have hlt : k < ts.length := by omega
          have hd : decide (k < ts.length) = true := by simpa using hlt
          have RW := Lib.hid (HR.out.fr FF.out (Nat.le_of_lt LT.out))
          obtain ⟨b', o, a', us, q, d, rfl, hbD, he, z0, z1, hrr⟩ := RW.out.get hlt
          have EQ2 := EQ.out
          rw [List.drop_eq_getElem_cons hlt, he, prL_cons] at EQ2
          have h1 := prL_ge (ts.drop (k + 1)) ((if decide (k = 0) = true then acc else acc ++ ⟨#[32]⟩) ++ prT (.mk a' us)) false
          rw [EQ2, ByteArray.size_append] at h1
          have hacc : acc.size + (if k = 0 then 0 else 1) + (prT (.mk a' us)).size ≤ FULL.size := by
            by_cases hk0 : k = 0
            · rw [if_pos (by simpa using hk0)] at h1; rw [if_pos hk0]; omega
            · rw [if_neg (by simpa using hk0), ByteArray.size_append] at h1; rw [if_neg hk0]
              have : (⟨#[32]⟩ : ByteArray).size = 1 := rfl
              omega
          have HA := Lib.hid hacc
          have RR := Lib.hid hrr
          have HE := Lib.hid he
          have IC := Lib.hid (fun (wx : World) (v9 : Value) (l9 : List UInt8) (h9 : BU wx b (.pointer (some ⟨b, 0, none⟩)) v9 l9) (f9 : Fr b wr wx) (s9 : l9.length + (prT (.mk a' us)).size ≤ 1000000) => show Calls Try.prog 38 #[.pointer (some ⟨b, 0, none⟩), .agg #[.string a', .slice q us.length d]] wx (WRP wx b l9 (prT (.mk a' us))) from by
            have h9' := IH.out ts[k] (List.getElem_mem hlt) wx q d (.pointer (some ⟨b, 0, none⟩)) v9 l9 h9 (.inr rfl) (by rw [HE.out]; exact RR.out.fr f9 (Nat.le_of_lt BB.out.lt)) (by rw [HE.out]; exact s9)
            rw [HE.out] at h9'
            exact h9')
          have EQ3 := Lib.hid EQ2
          have HLT := Lib.hid hlt
          have ei : IntKind.i64.wrap ((k : Int) + 1) = (k : Int) + 1 := by have := HL.out; exact IntWalk.i64_in _ (by omega)
          have hki : (k : Int) < (ts.length : Int) := by omega
          clear hrr he hbD e EQ2 h1 hacc HE RR
          generalize prT (.mk a' us) = PT at *
          have KX := Lib.hid (bk_alloc (BK.refl wr) (.cells #[.string a', .slice q us.length d] 25))
          have NX := Lib.hid (heap_alloc_new wr (.cells #[.string a', .slice q us.length d] 25))
          by_cases hk0 : k = 0
          · subst hk0
            simp only [Nat.zero_mul, Nat.add_zero] at z0 z1
            have C38 := Lib.hid (IC.out _ v' _ (BB.out.bk KX.out) (Fr.bk KX.out) (by have := HA.out; have := HZ.out; rw [List.length_append, bs_len]; simp at this; omega))
            go_wp2_with fail
            refine C38.out.mono ?_
            rintro e w2 ⟨rfl, ⟨v2, hb2⟩, hf2⟩
            have B2 := Lib.hid (show BU w2 b (.pointer (some ⟨b, 0, none⟩)) v2 (l ++ bs (acc ++ PT)) from by rw [bs_app, ← List.append_assoc]; exact hb2)
            have F2 := Lib.hid (FF.out.trans ((Fr.bk KX.out).trans hf2))
            clear hb2 hf2
            go_wp2_with fail
            go_roundw
            case rel => exact ⟨1, _, v2, by have := HLT.out; omega, rfl, EQ3.out, B2.out, F2.out⟩
            case measure => have := HLT.out; simp [intOf]; omega
          · have hk1 : (0 : Int) < (k : Int) := by omega
            have EQ4 := Lib.hid (show prL ((acc ++ ⟨#[32]⟩) ++ PT) false (ts.drop (k + 1)) = FULL from by have := EQ3.out; rw [if_neg (by simpa using hk0)] at this; exact this)
            have SA := Lib.hid (show l.length + acc.size + 1 + PT.size ≤ 1000000 from by have h1 := HA.out; have := HZ.out; rw [if_neg hk0] at h1; omega)
            have C32 := Lib.hid (show Calls Try.prog 40 #[.pointer (some ⟨b, 0, none⟩), .int .u8 32] _ _ from byte40 _ b _ v' _ (BB.out.bk KX.out) (.inr rfl) 32 (by have := SA.out; rw [List.length_append, bs_len]; omega))
            clear hk0
            go_wp2_with fail
            refine C32.out.mono ?_
            rintro e w2 ⟨rfl, v2, hb2, hs2⟩
            have B2 := Lib.hid (show BU w2 b (.pointer (some ⟨b, 0, none⟩)) v2 (l ++ bs (acc ++ ⟨#[32]⟩)) from by rw [bs_app, ← List.append_assoc]; exact hb2)
            have F2 := Lib.hid ((Fr.bk KX.out).trans (Fr.step (BB.out.bk KX.out) hs2))
            have X2 := Lib.hid (box_far NX.out (Fr.step (BB.out.bk KX.out) hs2) (by have := BB.out.lt; omega))
            have y0 := cell_of_row w2 wr.heap.size 0 _ 25 (0, 0) X2.out
            have y1 := cell_of_row w2 wr.heap.size 1 _ 25 (0, 0) X2.out
            have C38 := Lib.hid (IC.out _ v2 _ B2.out F2.out (by have := SA.out; rw [List.length_append, bs_len, ByteArray.size_append]; have : (⟨#[32]⟩ : ByteArray).size = 1 := rfl; omega))
            clear hb2 hs2
            go_wp2_with fail
            refine C38.out.mono ?_
            rintro e w3 ⟨rfl, ⟨v3, hb3⟩, hf3⟩
            have B3 := Lib.hid (show BU w3 b (.pointer (some ⟨b, 0, none⟩)) v3 (l ++ bs ((acc ++ ⟨#[32]⟩) ++ PT)) from by rw [bs_app (acc ++ ⟨#[32]⟩) PT, ← List.append_assoc]; exact hb3)
            have F3 := Lib.hid (FF.out.trans (F2.out.trans hf3))
            clear hb3 hf3
            go_wp2_with fail
            go_roundw
            case rel => exact ⟨k + 1, _, v3, by have := HLT.out; omega, by go_num, EQ4.out, B3.out, F3.out⟩
            case measure => have := HLT.out; simp [intOf]; omega
    · rw [if_neg ha] at hz ⊢
      have he := empty_str a ha
      have C51 := Lib.hid (str51 _ b x v l BU0.out AX.out a (by omega) (by omega))
      clear ha
      go_enter Try.func38, Try.ntmps38
      go_wp2_with fail
      refine C51.out.mono ?_
      rintro e w2 ⟨rfl, v', hb2, hf2⟩
      have H2 := Lib.hid (show WRP w b l a (.returned (.tuple #[])) w2 from ⟨rfl, ⟨v', hb2⟩, (Fr.bk K0.out).trans hf2⟩)
      clear hb2 hf2
      go_wp2_with fail
      go_end0
      exact H2.out
end Go.Proofs.Ytgiheheakgigkaa
