/- The reference's Depth and Count. -/
import Derived.Test.YtgiheheakgigkaaAK
namespace Go.Proofs.Ytgiheheakgigkaa
open Go.RowKit
set_option linter.unusedVariables false
set_option linter.unusedSimpArgs false
def depC (t : T) : Prop := ∀ (w : World) (p : Option Addr) (c : Nat), RowD (mem 0 w) w p c t.ts → nd t ≤ 1000000 → Calls Try.prog 25 #[.agg #[.string t.a, .slice p t.ts.length c]] w fun e w' => e = .returned (.int .i64 ((dpT t : Nat) : Int)) ∧ BK w w'
set_option maxRecDepth 100000 in
set_option maxHeartbeats 4000000 in
theorem dep25 (t : T) : depC t := by
  induction t using T.ind with
  | h a ts ih =>
    intro w p c hp0 hz
    have hp : RowD (mem 0 w) w p c ts := hp0
    show Calls Try.prog 25 #[.agg #[.string a, .slice p ts.length c]] w _
    rw [nd_mk] at hz
    have HZ := Lib.hid (show ndL ts ≤ 1000000 from by omega)
    have HL := Lib.hid (show ts.length ≤ 1000000 from by have := ndL_len ts; omega)
    have IH := Lib.hid ih
    have HP := Lib.hid hp
    have KA := Lib.hid (bk_alloc (BK.refl w) (.cells #[.string a, .slice p ts.length c] 25))
    have NA := Lib.hid (heap_alloc_new w (.cells #[.string a, .slice p ts.length c] 25))
    have x0 := cell_of_row _ w.heap.size 0 _ 25 (0, 0) NA.out
    rw [dpT_mk]
    clear hp hp0 ih hz
    by_cases ha : a.size = 0
    · rw [if_pos ha]
      have ea := empty_size ha
      subst ea
      clear ha
      have HB := Lib.hid (show dpL 0 ts ≤ 1000001 from Nat.le_trans (dpL_le (n := 1000000) (Nat.zero_le _) fun t ht => Nat.le_trans (dp_nd t) (Nat.le_trans (ndL_mem ht) HZ.out)) (by omega))
      generalize hr : dpL 0 ts = r
      have HR := Lib.hid hr
      rw [hr] at HB
      clear hr
      go_enter Try.func25, Try.ntmps25
      go_wp2_with fail
      generalize w.alloc (.cells #[.string ⟨#[]⟩, .slice p ts.length c] 25) = w1 at *
      clear x0
      go_loopw [3, 4] (fun nv iv wr => ∃ (k m : Nat), k ≤ ts.length ∧ nv = .int .i64 (m : Int) ∧ iv = .int .i64 (k : Int) ∧ dpL m (ts.drop k) = r ∧ BK w1 wr) (fun _ iv _ => ts.length - (intOf iv).toNat)
      case atStart => exact ⟨0, 0, Nat.zero_le _, rfl, rfl, HR.out, BK.refl _⟩
      case round =>
        obtain ⟨k, m, hk, rfl, rfl, heq, hb⟩ := hrel
        have EQ := Lib.hid heq
        have KB := Lib.hid hb
        have B2 := Lib.hid ((bk_block hb (Array.getElem?_eq_some_iff.1 NA.out).1).trans NA.out)
        have x0 := cell_of_row _ w.heap.size 0 _ 25 (0, 0) B2.out
        have x1 := cell_of_row _ w.heap.size 1 _ 25 (0, 0) B2.out
        have hmr : m ≤ r := by rw [← heq]; exact dpL_ge _ _
        have HMR := Lib.hid hmr
        have hmb : m ≤ 1000001 := Nat.le_trans hmr HB.out
        have em : IntKind.i64.wrap ((m : Int) + 1) = (m : Int) + 1 := IntWalk.i64_in _ (by omega)
        clear heq hb hmr
        by_cases e : k = ts.length
        · have hd : decide (k < ts.length) = false := by simp [e]
          have EQ2 := EQ.out
          rw [List.drop_of_length_le (by omega), dpL_nil] at EQ2
          subst EQ2
          subst e
          go_wp2_with fail
          go_ret
          exact ⟨rfl, bk_tr KA.out KB.out⟩
        · have hlt : k < ts.length := by omega
          have hd : decide (k < ts.length) = true := by simpa using hlt
          obtain ⟨b, o, a', us, q, d, rfl, -, he, z0, z1, hrr⟩ := ((HP.out.bk KA.out (Nat.le_refl _)).bk KB.out (Nat.le_refl _)).get hlt
          have EQ2 := EQ.out
          rw [List.drop_eq_getElem_cons hlt, dpL_cons, he] at EQ2
          have CC := Lib.hid (show Calls Try.prog 25 #[.agg #[.string a', .slice q us.length d]] wr _ from by
            have := IH.out ts[k] (List.getElem_mem hlt) wr q d (by rw [he]; exact hrr) (Nat.le_trans (ndL_get hlt) HZ.out)
            rw [he] at this
            exact this)
          have HG := Lib.hid (dpL_ge (ts.drop (k + 1)) (max m (dpT (T.mk a' us))))
          rw [EQ2] at HG
          have EQ3 := Lib.hid EQ2
          have ei : IntKind.i64.wrap ((k : Int) + 1) = (k : Int) + 1 := by have := HL.out; exact IntWalk.i64_in _ (by omega)
          have hki : (k : Int) < (ts.length : Int) := by omega
          have HLT := Lib.hid hlt
          clear hrr he e EQ2 em
          generalize dpT (T.mk a' us) = d2 at *
          have hg2 := Nat.le_trans HG.out HB.out
          have es : IntKind.i64.wrap ((m : Int) + (d2 : Int)) = (m : Int) + (d2 : Int) := IntWalk.i64_in _ (by omega)
          go_wp2_with fail
          refine CC.out.mono ?_
          rintro e w2 ⟨rfl, hb2⟩
          have K2 := Lib.hid (bk_tr KB.out hb2)
          clear hb2
          go_wp2_with fail
          go_roundw
          case rel => exact ⟨k + 1, max m (d2), by have := HLT.out; omega, by first | rfl | go_num | (congr 1; omega), by go_num, EQ3.out, K2.out⟩
          case measure => have := HLT.out; simp [intOf]; omega
    · rw [if_neg ha]
      have he := empty_str a ha
      clear ha
      go_enter Try.func25, Try.ntmps25
      go_wp2_with fail
      go_ret
      exact ⟨rfl, KA.out⟩
def couC (t : T) : Prop := ∀ (w : World) (p : Option Addr) (c : Nat), RowD (mem 0 w) w p c t.ts → nd t ≤ 1000000 → Calls Try.prog 27 #[.agg #[.string t.a, .slice p t.ts.length c]] w fun e w' => e = .returned (.int .i64 ((cnT t : Nat) : Int)) ∧ BK w w'
set_option maxRecDepth 100000 in
set_option maxHeartbeats 4000000 in
theorem cou27 (t : T) : couC t := by
  induction t using T.ind with
  | h a ts ih =>
    intro w p c hp0 hz
    have hp : RowD (mem 0 w) w p c ts := hp0
    show Calls Try.prog 27 #[.agg #[.string a, .slice p ts.length c]] w _
    rw [nd_mk] at hz
    have HZ := Lib.hid (show ndL ts ≤ 1000000 from by omega)
    have HL := Lib.hid (show ts.length ≤ 1000000 from by have := ndL_len ts; omega)
    have IH := Lib.hid ih
    have HP := Lib.hid hp
    have KA := Lib.hid (bk_alloc (BK.refl w) (.cells #[.string a, .slice p ts.length c] 25))
    have NA := Lib.hid (heap_alloc_new w (.cells #[.string a, .slice p ts.length c] 25))
    have x0 := cell_of_row _ w.heap.size 0 _ 25 (0, 0) NA.out
    rw [cnT_mk]
    clear hp hp0 ih hz
    by_cases ha : a.size = 0
    · rw [if_pos ha]
      have ea := empty_size ha
      subst ea
      clear ha
      have HB := Lib.hid (show cnL 1 ts ≤ 1000001 from by have := cnL_nd ts 1 (fun t _ => cn_nd t); have := HZ.out; omega)
      generalize hr : cnL 1 ts = r
      have HR := Lib.hid hr
      rw [hr] at HB
      clear hr
      go_enter Try.func27, Try.ntmps27
      go_wp2_with fail
      generalize w.alloc (.cells #[.string ⟨#[]⟩, .slice p ts.length c] 25) = w1 at *
      clear x0
      go_loopw [3, 4] (fun nv iv wr => ∃ (k m : Nat), k ≤ ts.length ∧ nv = .int .i64 (m : Int) ∧ iv = .int .i64 (k : Int) ∧ cnL m (ts.drop k) = r ∧ BK w1 wr) (fun _ iv _ => ts.length - (intOf iv).toNat)
      case atStart => exact ⟨0, 1, Nat.zero_le _, rfl, rfl, HR.out, BK.refl _⟩
      case round =>
        obtain ⟨k, m, hk, rfl, rfl, heq, hb⟩ := hrel
        have EQ := Lib.hid heq
        have KB := Lib.hid hb
        have B2 := Lib.hid ((bk_block hb (Array.getElem?_eq_some_iff.1 NA.out).1).trans NA.out)
        have x0 := cell_of_row _ w.heap.size 0 _ 25 (0, 0) B2.out
        have x1 := cell_of_row _ w.heap.size 1 _ 25 (0, 0) B2.out
        have hmr : m ≤ r := by rw [← heq]; exact cnL_ge _ _
        have HMR := Lib.hid hmr
        have hmb : m ≤ 1000001 := Nat.le_trans hmr HB.out
        have em : IntKind.i64.wrap ((m : Int) + 1) = (m : Int) + 1 := IntWalk.i64_in _ (by omega)
        clear heq hb hmr
        by_cases e : k = ts.length
        · have hd : decide (k < ts.length) = false := by simp [e]
          have EQ2 := EQ.out
          rw [List.drop_of_length_le (by omega), cnL_nil] at EQ2
          subst EQ2
          subst e
          go_wp2_with fail
          go_ret
          exact ⟨rfl, bk_tr KA.out KB.out⟩
        · have hlt : k < ts.length := by omega
          have hd : decide (k < ts.length) = true := by simpa using hlt
          obtain ⟨b, o, a', us, q, d, rfl, -, he, z0, z1, hrr⟩ := ((HP.out.bk KA.out (Nat.le_refl _)).bk KB.out (Nat.le_refl _)).get hlt
          have EQ2 := EQ.out
          rw [List.drop_eq_getElem_cons hlt, cnL_cons, he] at EQ2
          have CC := Lib.hid (show Calls Try.prog 27 #[.agg #[.string a', .slice q us.length d]] wr _ from by
            have := IH.out ts[k] (List.getElem_mem hlt) wr q d (by rw [he]; exact hrr) (Nat.le_trans (ndL_get hlt) HZ.out)
            rw [he] at this
            exact this)
          have HG := Lib.hid (cnL_ge (ts.drop (k + 1)) (m + cnT (T.mk a' us)))
          rw [EQ2] at HG
          have EQ3 := Lib.hid EQ2
          have ei : IntKind.i64.wrap ((k : Int) + 1) = (k : Int) + 1 := by have := HL.out; exact IntWalk.i64_in _ (by omega)
          have hki : (k : Int) < (ts.length : Int) := by omega
          have HLT := Lib.hid hlt
          clear hrr he e EQ2 em
          generalize cnT (T.mk a' us) = d2 at *
          have hg2 := Nat.le_trans HG.out HB.out
          have es : IntKind.i64.wrap ((m : Int) + (d2 : Int)) = (m : Int) + (d2 : Int) := IntWalk.i64_in _ (by omega)
          go_wp2_with fail
          refine CC.out.mono ?_
          rintro e w2 ⟨rfl, hb2⟩
          have K2 := Lib.hid (bk_tr KB.out hb2)
          clear hb2
          go_wp2_with fail
          go_roundw
          case rel => exact ⟨k + 1, m + d2, by have := HLT.out; omega, by first | rfl | go_num | (congr 1; omega), by go_num, EQ3.out, K2.out⟩
          case measure => have := HLT.out; simp [intOf]; omega
    · rw [if_neg ha]
      have he := empty_str a ha
      clear ha
      go_enter Try.func27, Try.ntmps27
      go_wp2_with fail
      go_ret
      exact ⟨rfl, KA.out⟩
end Go.Proofs.Ytgiheheakgigkaa
