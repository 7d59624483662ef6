/- Small terms. -/
import Derived.Test.YtmejiiebeknbjaaDoorB
namespace Go.Proofs.YtmejiiebeknbjaaDoor
open Go.RowKit
set_option linter.unusedVariables false
set_option linter.unusedSimpArgs false
theorem leftL_drop (ts : List T) (k : Nat) (h : k < ts.length) (m : Int) : leftL (ts.drop k) m = if m < 0 then -1 else leftL (ts.drop (k + 1)) (leftT ts[k] m) := by
  rw [List.drop_eq_getElem_cons h]; rfl
theorem leftL_end (ts : List T) (m : Int) : leftL (ts.drop ts.length) m = m := by rw [List.drop_length]; rfl
def PL (t : T) : Prop := ∀ op wd vl nm ts, t = .mk op wd vl nm ts → ∀ (m : Int) (w : World) (p : Option Addr) (c : Nat), Row w p c ts → 0 ≤ m → m ≤ 1000 →
  Calls Tryd.prog 25 #[.agg #[.int .i64 op, .int .i64 wd, .int .u64 vl, .string nm, .slice p ts.length c], .int .i64 m] w fun e w' => e = .returned (.int .i64 (leftT t m)) ∧ BK w w'
set_option maxRecDepth 100000 in
set_option maxHeartbeats 1000000 in
theorem left_any (t : T) : PL t := by
  induction t using T.ind with
  | h op' wd' vl' nm' ts' ih =>
    intro op wd vl nm ts ht m w p c hr hm0 hm1
    obtain ⟨rfl, rfl, rfl, rfl, rfl⟩ := T.mk.inj ht
    clear ht
    have hlen := hr.len
    unfold maxLen at hlen
    have hx := b5_new w (.int .i64 op') (.int .i64 wd') (.int .u64 vl') (.string nm') (.slice p ts'.length c) 34
    have hlt := box_lt w #[.int .i64 op', .int .i64 wd', .int .u64 vl', .string nm', .slice p ts'.length c] 34
    have hk0 := bk_alloc (BK.refl w) (.cells #[.int .i64 op', .int .i64 wd', .int .u64 vl', .string nm', .slice p ts'.length c] 34)
    have hr0 := hr.keep hk0
    clear hr
    have hspec : leftT (.mk op' wd' vl' nm' ts') m = leftL ts' (m - 1) := rfl
    rw [hspec]
    clear hspec
    go_enter Tryd.func25, Tryd.ntmps25
    go_wp2_with fail
    generalize w.alloc (.cells #[.int .i64 op', .int .i64 wd', .int .u64 vl', .string nm', .slice p ts'.length c] 34) = w0 at hx hlt hk0 hr0 ⊢
    have HX := Lib.hid (fun wc (hb : BK w0 wc) => hx.keep hb hlt)
    have HR := Lib.hid (fun wc (hb : BK w0 wc) => hr0.keep hb)
    have HK0 := Lib.hid hk0
    have IH := Lib.hid ih
    clear hx hlt hk0 hr0 ih
    go_loopw [1, 11] (fun y x wr => ∃ (k : Nat) (m' : Int), k ≤ ts'.length ∧ x = .int .i64 k ∧ y = .int .i64 m' ∧ -1 ≤ m' ∧ m' ≤ 1000 ∧ leftL ts' (m - 1) = leftL (ts'.drop k) m' ∧ BK w0 wr) (fun _ x _ => ts'.length - (intOf x).toNat)
    case atStart => exact ⟨0, m - 1, Nat.zero_le _, rfl, rfl, by omega, by omega, rfl, BK.refl _⟩
    case round =>
      obtain ⟨k, m', hk, rfl, rfl, hb0, hb1, hs, hkw⟩ := hrel
      have HK := Lib.hid hkw
      obtain ⟨-, -, -, -, x4⟩ := HX.out _ hkw
      by_cases hlt : k < ts'.length
      · have HS := Lib.hid (hs.trans (leftL_drop ts' k hlt m'))
        clear hs
        by_cases hneg : m' < 0
        · have H1 := Lib.hid (HS.out.trans (if_pos hneg))
          clear hkw
          go_wp2_with fail
          go_ret
          exact ⟨ret_int' H1.out.symm, bk_tr HK0.out HK.out⟩
        · obtain ⟨b, o, op2, wd2, vl2, nm2, us, q, d, rfl, htk, hc5, hw5, hr5⟩ := (HR.out _ hkw).get hlt
          obtain ⟨c0, c1, c2, c3, c4⟩ := hc5
          have hmem : ts'[k] ∈ ts' := List.getElem_mem hlt
          have HC := Lib.hid (IH.out _ hmem op2 wd2 vl2 nm2 us htk m' wr q d hr5 (by omega) hb1)
          have H1 := Lib.hid (HS.out.trans (if_neg hneg))
          have hbd := left_bd ts'[k] m' (by omega)
          clear hkw hmem htk hr5 hw5
          generalize leftT ts'[k] m' = m2 at HC H1 hbd
          go_wp2_with fail
          refine HC.out.mono ?_
          rintro e w2 ⟨rfl, hb2⟩
          have H2 := Lib.hid (bk_tr HK.out hb2)
          clear hb2 c0 c1 c2 c3 c4 x4
          go_wp2_with fail
          go_roundw
          case rel => exact ⟨k + 1, m2, by omega, by go_num, rfl, by omega, by omega, H1.out, H2.out⟩
          case measure => simp [intOf]; omega
      · obtain rfl : k = ts'.length := by omega
        have H1 := Lib.hid (hs.trans (leftL_end ts' m'))
        clear hs hkw
        go_wp2_with fail
        go_ret
        exact ⟨ret_int' H1.out.symm, bk_tr HK0.out HK.out⟩
def smallB (t : T) (m : Int) : Bool := decide (0 ≤ leftT t m)
set_option maxHeartbeats 1000000 in
theorem small15 (op wd : Int) (vl : Nat) (nm : ByteArray) (ts : List T) (m : Int) (w : World) (p : Option Addr) (c : Nat) (hr : Row w p c ts) (h0 : 0 ≤ m) (h1 : m ≤ 1000) :
    Calls Tryd.prog 15 #[.agg #[.int .i64 op, .int .i64 wd, .int .u64 vl, .string nm, .slice p ts.length c], .int .i64 m] w fun e w' => e = .returned (.bool (smallB (.mk op wd vl nm ts) m)) ∧ BK w w' := by
  have hx := b5_new w (.int .i64 op) (.int .i64 wd) (.int .u64 vl) (.string nm) (.slice p ts.length c) 34
  have hk0 := bk_alloc (BK.refl w) (.cells #[.int .i64 op, .int .i64 wd, .int .u64 vl, .string nm, .slice p ts.length c] 34)
  have HC := Lib.hid (left_any (.mk op wd vl nm ts) op wd vl nm ts rfl m _ p c (hr.keep hk0) h0 h1)
  have HK0 := Lib.hid hk0
  obtain ⟨x0, x1, x2, x3, x4⟩ := hx
  clear hr hk0
  have hd : smallB (.mk op wd vl nm ts) m = decide (0 ≤ leftT (.mk op wd vl nm ts) m) := rfl
  generalize leftT (.mk op wd vl nm ts) m = r at HC hd
  have HD := Lib.hid hd
  clear hd
  go_enter Tryd.func15, Tryd.ntmps15
  go_wp2_with fail
  refine HC.out.mono ?_
  rintro e w1 ⟨rfl, hb⟩
  have H1 := Lib.hid (bk_tr HK0.out hb)
  clear hb x0 x1 x2 x3 x4
  go_wp2_with fail
  go_ret
  exact ⟨ret_bool (by rw [HD.out]), H1.out⟩
end Go.Proofs.YtmejiiebeknbjaaDoor
