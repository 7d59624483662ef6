/- PrintAll, the reference's and the program's. -/
import Derived.Test.YtgiheheakgigkaaAP
import Derived.Test.YtgiheheakgigkaaAB
namespace Go.Proofs.Ytgiheheakgigkaa
open Go.RowKit
set_option linter.unusedVariables false
set_option linter.unusedSimpArgs false
def prA (acc : ByteArray) : List T → ByteArray
  | [] => acc
  | t :: ts => prA (acc ++ (prT t ++ ⟨#[10]⟩)) ts
theorem prA_nil (acc : ByteArray) : prA acc [] = acc := rfl
theorem prA_cons (acc : ByteArray) (t : T) (ts : List T) : prA acc (t :: ts) = prA (acc ++ (prT t ++ ⟨#[10]⟩)) ts := rfl
theorem prA_ge : ∀ (ts : List T) (acc : ByteArray), acc.size + ts.length ≤ (prA acc ts).size
  | [], acc => by rw [prA_nil]; exact Nat.le_refl _
  | t :: ts, acc => by
    rw [prA_cons]
    have h1 := prA_ge ts (acc ++ (prT t ++ ⟨#[10]⟩))
    rw [ByteArray.size_append, ByteArray.size_append] at h1
    have h2 : (⟨#[10]⟩ : ByteArray).size = 1 := rfl
    simp only [List.length_cons]
    omega
set_option maxRecDepth 100000 in
set_option maxHeartbeats 4000000 in
theorem refall21 (ts : List T) (w : World) (p : Option Addr) (c : Nat) (hp : RowD (mem 0 w) w p c ts) (hz : (prA ⟨#[]⟩ ts).size ≤ 1000000) : Calls Try.prog 21 #[.slice p ts.length c] w fun e w' => e = .returned (.string (prA ⟨#[]⟩ ts)) ∧ BK w w' := by
  have HP := Lib.hid hp
  have HZ := Lib.hid hz
  have HL := Lib.hid (show ts.length ≤ 1000000 from by have := prA_ge ts ⟨#[]⟩; omega)
  have E0 := Lib.hid (show prA ⟨#[]⟩ (ts.drop 0) = prA ⟨#[]⟩ ts from rfl)
  clear hp hz
  generalize prA ⟨#[]⟩ ts = FULL at *
  go_enter Try.func21, Try.ntmps21
  go_wp2_with fail
  go_loopw [3, 4] (fun o iv wr => ∃ (k : Nat) (acc : ByteArray), k ≤ ts.length ∧ o = .string acc ∧ iv = .int .i64 (k : Int) ∧ prA acc (ts.drop k) = FULL ∧ BK w wr) (fun _ iv _ => ts.length - (intOf iv).toNat)
  case atStart => exact ⟨0, _, Nat.zero_le _, rfl, rfl, E0.out, BK.refl _⟩
  case round =>
    obtain ⟨k, acc, hk, rfl, rfl, heq, hb⟩ := hrel
    have EQ := Lib.hid heq
    have KB := Lib.hid hb
    clear heq hb
    by_cases e : k = ts.length
    · have hd : decide (k < ts.length) = false := by simp [e]
      have EQ2 := EQ.out
      rw [List.drop_of_length_le (by omega), prA_nil] at EQ2
      subst EQ2
      have hsz := HZ.out
      subst e
      go_wp2_with fail
      go_ret
      exact ⟨rfl, KB.out⟩
    · have hlt : k < ts.length := by omega
      have hd : decide (k < ts.length) = true := by simpa using hlt
      obtain ⟨b, o, a', us, q, d, rfl, -, he, z0, z1, hrr⟩ := (HP.out.bk KB.out (Nat.le_refl _)).get hlt
      have EQ2 := EQ.out
      rw [List.drop_eq_getElem_cons hlt, he, prA_cons] at EQ2
      have h1 := prA_ge (ts.drop (k + 1)) (acc ++ (prT (.mk a' us) ++ ⟨#[10]⟩))
      rw [EQ2, ByteArray.size_append, ByteArray.size_append] at h1
      have h2 : (⟨#[10]⟩ : ByteArray).size = 1 := rfl
      have hz := HZ.out
      have hsz : (prT (.mk a' us)).size ≤ 1000000 := by omega
      have hacc : acc.size ≤ 1000000 := by omega
      have hac2 : acc.size + ((prT (.mk a' us)).size + 1) ≤ 1000000 := by omega
      have CC := Lib.hid (show Calls Try.prog 19 #[.agg #[.string a', .slice q us.length d]] wr _ from ref19 (.mk a' us) wr q d hrr hsz)
      have EQ3 := Lib.hid EQ2
      have HLT := Lib.hid hlt
      have ei : IntKind.i64.wrap ((k : Int) + 1) = (k : Int) + 1 := by have := HL.out; exact IntWalk.i64_in _ (by omega)
      have hki : (k : Int) < (ts.length : Int) := by omega
      clear hrr he e EQ2 h1 h2 hz
      generalize prT (.mk a' us) = PT at *
      go_wp2_with fail
      refine CC.out.mono ?_
      rintro e w2 ⟨rfl, hb2⟩
      have K2 := Lib.hid (bk_tr KB.out hb2)
      clear hb2
      go_wp2_with fail
      go_roundw
      case rel => exact ⟨k + 1, _, by have := HLT.out; omega, rfl, by go_num, EQ3.out, K2.out⟩
      case measure => have := HLT.out; simp [intOf]; omega
set_option maxRecDepth 100000 in
set_option maxHeartbeats 4000000 in
theorem all20 (ts : List T) (w : World) (p : Option Addr) (c : Nat) (hp : RowD (mem 0 w) w p c ts) (hz : (prA ⟨#[]⟩ ts).size ≤ 1000000) : Calls Try.prog 20 #[.slice p ts.length c] w fun e w' => e = .returned (.string (prA ⟨#[]⟩ ts)) ∧ BK w w' := by
  have HP := Lib.hid (show RowD (low w.heap.size) w p c ts from hp.keep fun k hk => ⟨rfl, hk.2⟩)
  have HZ := Lib.hid hz
  have HL := Lib.hid (show ts.length ≤ 1000000 from by have := prA_ge ts ⟨#[]⟩; omega)
  have E0 := Lib.hid (show prA ⟨#[]⟩ (ts.drop 0) = prA ⟨#[]⟩ ts from rfl)
  have KY := Lib.hid (bk_alloc (BK.refl w) (.cells #[.pointer none, .slice none 0 0] 56))
  have NY := Lib.hid (heap_alloc_new w (.cells #[.pointer none, .slice none 0 0] 56))
  have BU0 := Lib.hid (show BU (w.alloc (.cells #[.pointer none, .slice none 0 0] 56)) w.heap.size (.pointer none) (.slice none 0 0) [] from ⟨NY.out, World.ownsRow_nil _ _ _ _⟩)
  clear hp hz NY
  generalize prA ⟨#[]⟩ ts = FULL at *
  go_enter Try.func20, Try.ntmps20
  go_wp2_with fail
  go_loopw [8] (fun iv wr => ∃ (k : Nat) (acc : ByteArray) (x v : Value), k ≤ ts.length ∧ iv = .int .i64 (k : Int) ∧ prA acc (ts.drop k) = FULL ∧ adr w.heap.size x ∧ BU wr w.heap.size x v (bs acc) ∧ Fr w.heap.size w wr) (fun iv _ => ts.length - (intOf iv).toNat)
  case atStart => exact ⟨0, ⟨#[]⟩, _, _, Nat.zero_le _, rfl, E0.out, .inl rfl, BU0.out, Fr.bk KY.out⟩
  case round =>
    obtain ⟨k, acc, x, v, hk, rfl, heq, hx, hb, hf⟩ := hrel
    have EQ := Lib.hid heq
    have BB := Lib.hid hb
    have AX := Lib.hid hx
    have FF := Lib.hid hf
    clear heq hb hf hx
    by_cases e : k = ts.length
    · have hd : decide (k < ts.length) = false := by simp [e]
      have EQ2 := EQ.out
      rw [List.drop_of_length_le (by omega), prA_nil] at EQ2
      subst EQ2
      subst e
      have C39 := Lib.hid (Try.Builder_String_any w.heap.size w.heap.size _ wr (BB.out.is AX.out) (Nat.le_of_lt BB.out.lt))
      rw [bs_back] at C39
      go_wp2_with fail
      refine C39.out.mono ?_
      rintro e w3 ⟨rfl, hb3⟩
      have K3 := Lib.hid hb3
      clear hb3
      go_wp2_with fail
      go_ret
      exact ⟨rfl, Below.trans (Fr.bk_of (BK.refl w) FF.out (Nat.le_refl _)) (Below.mono K3.out (Nat.le_refl _))⟩
    · have hlt : k < ts.length := by omega
      have hd : decide (k < ts.length) = true := by simpa using hlt
      obtain ⟨b', o, a', us, q, d, rfl, hbD, he, z0, z1, hrr⟩ := (HP.out.fr FF.out (Nat.le_refl _)).get hlt
      have EQ2 := EQ.out
      rw [List.drop_eq_getElem_cons hlt, he, prA_cons] at EQ2
      have h1 := prA_ge (ts.drop (k + 1)) (acc ++ (prT (.mk a' us) ++ ⟨#[10]⟩))
      rw [EQ2, ByteArray.size_append, ByteArray.size_append] at h1
      have h2 : (⟨#[10]⟩ : ByteArray).size = 1 := rfl
      have hz := HZ.out
      have KX := Lib.hid (bk_alloc (BK.refl wr) (.cells #[.string a', .slice q us.length d] 25))
      have C38 := Lib.hid (show Calls Try.prog 38 #[.pointer (some ⟨w.heap.size, 0, none⟩), .agg #[.string a', .slice q us.length d]] (wr.alloc (.cells #[.string a', .slice q us.length d] 25)) (WRP (wr.alloc (.cells #[.string a', .slice q us.length d] 25)) w.heap.size (bs acc) (prT (.mk a' us))) from
        write38 w.heap.size (.mk a' us) _ q d x v (bs acc) (BB.out.bk KX.out) AX.out (show RowD (low w.heap.size) _ q d us from hrr.fr (Fr.bk KX.out) (Nat.le_of_lt BB.out.lt)) (by rw [bs_len]; omega))
      have HAC := Lib.hid (show acc.size + (prT (.mk a' us)).size ≤ 1000000 from by omega)
      have EQ3 := Lib.hid EQ2
      have HLT := Lib.hid hlt
      have ei : IntKind.i64.wrap ((k : Int) + 1) = (k : Int) + 1 := by have := HL.out; exact IntWalk.i64_in _ (by omega)
      have hki : (k : Int) < (ts.length : Int) := by omega
      clear hrr he e EQ2 h1 h2 hz hbD
      generalize prT (.mk a' us) = PT at *
      go_wp2_with fail
      refine C38.out.mono ?_
      rintro e w2 ⟨rfl, ⟨v2, hb2⟩, hf2⟩
      have C40 := Lib.hid (show Calls Try.prog 40 #[.pointer (some ⟨w.heap.size, 0, none⟩), .int .u8 10] _ _ from byte40 w2 w.heap.size _ v2 _ hb2 (.inr rfl) 10 (by rw [List.length_append, bs_len, bs_len]; exact HAC.out))
      have BB2 := Lib.hid hb2
      have F2 := Lib.hid (FF.out.trans ((Fr.bk KX.out).trans hf2))
      clear hb2 hf2
      go_wp2_with fail
      refine C40.out.mono ?_
      rintro e w4 ⟨rfl, v4, hb4, hs4⟩
      have B4 := Lib.hid (show BU w4 w.heap.size (.pointer (some ⟨w.heap.size, 0, none⟩)) v4 (bs (acc ++ (PT ++ ⟨#[10]⟩))) from by rw [bs_app, bs_app, ← List.append_assoc]; exact hb4)
      have F4 := Lib.hid (F2.out.trans (Fr.step BB2.out hs4))
      clear hb4 hs4
      go_wp2_with fail
      go_roundw
      case rel => exact ⟨k + 1, _, _, v4, by have := HLT.out; omega, by go_num, EQ3.out, .inr rfl, B4.out, F4.out⟩
      case measure => have := HLT.out; simp [intOf]; omega
end Go.Proofs.Ytgiheheakgigkaa
