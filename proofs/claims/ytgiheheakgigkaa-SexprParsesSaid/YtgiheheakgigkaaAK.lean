/- The reference's weigh and Few. -/
import Derived.Test.YtgiheheakgigkaaAJ
namespace Go.Proofs.Ytgiheheakgigkaa
open Go.RowKit
set_option linter.unusedVariables false
set_option linter.unusedSimpArgs false
theorem wrap64_in {x : Int} (h1 : -9223372036854775808 ≤ x) (h2 : x ≤ 9223372036854775807) : wrap64 x = x := by unfold wrap64; omega
def WC (t : T) : Prop := ∀ (w : World) (p : Option Addr) (c : Nat) (l : Int), RowD (mem 0 w) w p c t.ts → 0 ≤ l → l ≤ 1000 → Calls Try.prog 37 #[.agg #[.string t.a, .slice p t.ts.length c], .int .i64 l] w fun e w' => e = .returned (.int .i64 (wT t l)) ∧ BK w w'
set_option maxRecDepth 100000 in
set_option maxHeartbeats 4000000 in
theorem weigh37 (t : T) (hok : okT t) : WC t := by
  induction t using T.ind with
  | h a ts ih =>
    intro w p c l hp0 hl0 hl1
    rw [okT_mk] at hok
    have hp : RowD (mem 0 w) w p c ts := hp0
    show Calls Try.prog 37 #[.agg #[.string a, .slice p ts.length c], .int .i64 l] w _
    have HA : a.size ≤ 9223372036854775807 := hok.1
    have HL := Lib.hid (show ts.length ≤ 9223372036854775807 from hok.2.1)
    have IH := Lib.hid (fun t ht => ih t ht (okL_iff.1 hok.2.2 t ht))
    have GE := Lib.hid (fun t (ht : t ∈ ts) l (h0 : 0 ≤ l) => wT_ge t (okL_iff.1 hok.2.2 t ht) l h0)
    have HP := Lib.hid hp
    have KA := Lib.hid (bk_alloc (BK.refl w) (.cells #[.string a, .slice p ts.length c] 25))
    have NA := Lib.hid (heap_alloc_new w (.cells #[.string a, .slice p ts.length c] 25))
    have x0 := cell_of_row _ w.heap.size 0 _ 25 (0, 0) NA.out
    have e1 : IntKind.i64.wrap (l - 1) = l - 1 := IntWalk.i64_in _ (by omega)
    have hq : a.size / 100 ≤ 92233720368547758 := by omega
    have eq : ((a.size : Int)).tdiv 100 = ((a.size / 100 : Nat) : Int) := by rw [Int.tdiv_eq_ediv_of_nonneg (by omega)]; omega
    have eq2 : ((a.size : Int)) / 100 = ((a.size / 100 : Nat) : Int) := by omega
    have e2 : IntKind.i64.wrap ((a.size / 100 : Nat) : Int) = ((a.size / 100 : Nat) : Int) := IntWalk.i64_in _ (by omega)
    have e3 : IntKind.i64.wrap (l - 1 - ((a.size / 100 : Nat) : Int)) = l - 1 - ((a.size / 100 : Nat) : Int) := IntWalk.i64_in _ (by omega)
    rw [wT_mk]
    obtain ⟨l1, hl1'⟩ : ∃ l1, l1 = l - 1 - ((a.size / 100 : Nat) : Int) := ⟨_, rfl⟩
    rw [← hl1'] at e3 ⊢
    have hb1 : -(9223372036854775807 : Int) - 1 ≤ l1 ∧ l1 ≤ 1000 := by omega
    have HB1 := Lib.hid hb1
    generalize hr : wL ts l1 = r
    have HR := Lib.hid hr
    have HL1 := Lib.hid hl1'
    have EL1 : l - 1 - ((a.size / 100 : Nat) : Int) = l1 := hl1'.symm
    have EW := Lib.hid (show wrap64 (l - 1 - wrap64 ((a.size : Int) / 100)) = l1 from by
      rw [eq2, show wrap64 ((a.size / 100 : Nat) : Int) = ((a.size / 100 : Nat) : Int) from wrap64_in (by omega) (by omega), EL1]
      exact wrap64_in (by omega) (by omega))
    clear eq eq2 e2 e3 EL1 hq
    clear hr hb1 hl1' hp hp0 ih hok HA
    go_enter Try.func37, Try.ntmps37
    go_wp2_with fail
    rw [EW.out]
    generalize w.alloc (.cells #[.string a, .slice p ts.length c] 25) = w1 at *
    clear x0 e1 hl0 hl1 EW
    go_loopw [1, 5] (fun lv iv wr => ∃ (k : Nat) (l : Int), k ≤ ts.length ∧ lv = .int .i64 l ∧ iv = .int .i64 (k : Int) ∧ wL (ts.drop k) l = r ∧ (-(9223372036854775807 : Int) - 1 ≤ l ∧ l ≤ 1000) ∧ BK w1 wr) (fun _ iv _ => ts.length - (intOf iv).toNat)
    case atStart => exact ⟨0, l1, Nat.zero_le _, rfl, rfl, HR.out, HB1.out, BK.refl _⟩
    case round =>
      obtain ⟨k, l2, hk, rfl, rfl, heq, hbd, hb⟩ := hrel
      have EQ := Lib.hid heq
      have KB := Lib.hid hb
      have BD := Lib.hid hbd
      have B2 := Lib.hid ((bk_block hb (Array.getElem?_eq_some_iff.1 NA.out).1).trans NA.out)
      have x0 := cell_of_row _ w.heap.size 0 _ 25 (0, 0) B2.out
      have x1 := cell_of_row _ w.heap.size 1 _ 25 (0, 0) B2.out
      clear heq hb hbd
      by_cases hneg : l2 < 0
      · have EQ2 := EQ.out
        rw [wL_neg hneg] at EQ2
        subst EQ2
        have h2 : decide (0 ≤ l2) = false := by simp; omega
        have h3 : ¬ (0 ≤ l2) := by omega
        clear hneg
        by_cases e : k < ts.length
        · have hd : decide (k < ts.length) = true := by simpa using e
          go_wp2_with fail
          go_ret
          exact ⟨rfl, bk_tr KA.out KB.out⟩
        · have hd : decide (k < ts.length) = false := by simpa using e
          go_wp2_with fail
          go_ret
          exact ⟨rfl, bk_tr KA.out KB.out⟩
      · have h2 : decide (0 ≤ l2) = true := by simp; omega
        have h3 : 0 ≤ l2 := by omega
        clear hneg
        by_cases e : k = ts.length
        · have hd : decide (k < ts.length) = false := by simp [e]
          have EQ2 := EQ.out
          rw [List.drop_of_length_le (by omega), wL_nil] at EQ2
          subst EQ2
          subst e
          go_wp2_with fail
          go_ret
          exact ⟨rfl, bk_tr KA.out KB.out⟩
        · have hlt : k < ts.length := by omega
          have hd : decide (k < ts.length) = true := by simpa using hlt
          obtain ⟨b, o, a', us, q, d, rfl, -, he, z0, z1, hrr⟩ := ((HP.out.bk KA.out (Nat.le_refl _)).bk KB.out (Nat.le_refl _)).get hlt
          have EQ2 := EQ.out
          rw [List.drop_eq_getElem_cons hlt, wL_cons, if_pos h3, he] at EQ2
          have hge := GE.out ts[k] (List.getElem_mem hlt) l2 h3
          have hle := wT_le ts[k] l2
          rw [he] at hge hle
          have CC := Lib.hid (show Calls Try.prog 37 #[.agg #[.string a', .slice q us.length d], .int .i64 l2] wr _ from by
            have := IH.out ts[k] (List.getElem_mem hlt) wr q d l2 (by rw [he]; exact hrr) h3 BD.out.2
            rw [he] at this
            exact this)
          have HGE := Lib.hid (show -(9223372036854775807 : Int) - 1 ≤ wT (.mk a' us) l2 ∧ wT (.mk a' us) l2 ≤ 1000 from ⟨hge, by have := BD.out.2; omega⟩)
          have EQ3 := Lib.hid EQ2
          have ei : IntKind.i64.wrap ((k : Int) + 1) = (k : Int) + 1 := by have := HL.out; exact IntWalk.i64_in _ (by omega)
          have hki : (k : Int) < (ts.length : Int) := by omega
          have HLT := Lib.hid hlt
          clear hrr he e EQ2 hge hle
          generalize wT (.mk a' us) l2 = l3 at *
          go_wp2_with fail
          refine CC.out.mono ?_
          rintro e w2 ⟨rfl, hb2⟩
          have K2 := Lib.hid (bk_tr KB.out hb2)
          clear hb2
          go_wp2_with fail
          go_roundw
          case rel => exact ⟨k + 1, l3, by have := HLT.out; omega, rfl, by go_num, EQ3.out, HGE.out, K2.out⟩
          case measure => have := HLT.out; simp [intOf]; omega
def fewB (t : T) (l : Int) : Bool := if 0 ≤ wT t l then true else false
set_option maxRecDepth 100000 in
set_option maxHeartbeats 4000000 in
theorem few17 (t : T) (hok : okT t) (w : World) (p : Option Addr) (c : Nat) (l : Int) (hp : RowD (mem 0 w) w p c t.ts) (h0 : 0 ≤ l) (h1 : l ≤ 1000) : Calls Try.prog 17 #[.agg #[.string t.a, .slice p t.ts.length c], .int .i64 l] w fun e w' => e = .returned (.bool (fewB t l)) ∧ BK w w' := by
  have KA := Lib.hid (bk_alloc (BK.refl w) (.cells #[.string t.a, .slice p t.ts.length c] 25))
  have NA := Lib.hid (heap_alloc_new w (.cells #[.string t.a, .slice p t.ts.length c] 25))
  have x0 := cell_of_row _ w.heap.size 0 _ 25 (0, 0) NA.out
  have x1 := cell_of_row _ w.heap.size 1 _ 25 (0, 0) NA.out
  have CC := Lib.hid (weigh37 t hok _ p c l (hp.bk KA.out (Nat.le_refl _)) h0 h1)
  have FB := Lib.hid (show fewB t l = if 0 ≤ wT t l then true else false from rfl)
  clear hp h0 h1
  generalize wT t l = r at *
  generalize fewB t l = b at *
  go_enter Try.func17, Try.ntmps17
  go_wp2_with fail
  refine CC.out.mono ?_
  rintro e w2 ⟨rfl, hb2⟩
  have K2 := Lib.hid (bk_tr KA.out hb2)
  clear hb2
  by_cases hr : 0 ≤ r
  · have FB2 := FB.out
    rw [if_pos hr] at FB2
    subst FB2
    have h2 : decide (0 ≤ r) = true := by simpa using hr
    go_wp2_with fail
    go_ret
    exact ⟨ret_bool (by simp [hr]), K2.out⟩
  · have FB2 := FB.out
    rw [if_neg hr] at FB2
    subst FB2
    have h2 : decide (0 ≤ r) = false := by simpa using hr
    go_wp2_with fail
    go_ret
    exact ⟨ret_bool (by simp [hr]), K2.out⟩
end Go.Proofs.Ytgiheheakgigkaa
