/- The reference's right and Valid. -/
import Derived.Test.YtgiheheakgigkaaAL
namespace Go.Proofs.Ytgiheheakgigkaa
open Go.RowKit
set_option linter.unusedVariables false
set_option linter.unusedSimpArgs false
mutual
/-- atoms are not too long -/
def szT : T → Prop
  | .mk a ts => a.size ≤ 100000 ∧ szL ts
def szL : List T → Prop
  | [] => True
  | t :: ts => szT t ∧ szL ts
end
theorem szT_mk {a : ByteArray} {ts : List T} : szT (.mk a ts) ↔ a.size ≤ 100000 ∧ szL ts := by rw [szT]
theorem szL_iff : ∀ {ts : List T}, szL ts ↔ ∀ t ∈ ts, szT t
  | [] => by rw [szL]; simp
  | t :: ts => by rw [szL, szL_iff]; simp
theorem sz_wL : ∀ (ts : List T), (∀ t ∈ ts, ∀ l, l ≤ 1000 → 0 ≤ wT t l → szT t) → ∀ l, l ≤ 1000 → 0 ≤ wL ts l → szL ts
  | [], _, l, _, _ => by rw [szL]; trivial
  | t :: ts, h, l, hl, h0 => by
    rw [wL_cons] at h0
    rw [szL]
    split at h0
    · have h1 := wL_le ts (fun u _ => wT_le u) (wT t l)
      have h2 := wT_le t l
      exact ⟨h t (by simp) l hl (by omega), sz_wL ts (fun u hu => h u (by simp [hu])) _ (by omega) h0⟩
    · omega
theorem sz_w (t : T) : ∀ l, l ≤ 1000 → 0 ≤ wT t l → szT t := by
  induction t using T.ind with
  | h a ts ih =>
    intro l hl h0
    rw [wT_mk] at h0
    have h1 := wL_le ts (fun u _ => wT_le u) (l - 1 - ((a.size / 100 : Nat) : Int))
    rw [szT_mk]
    exact ⟨by omega, sz_wL ts ih _ (by omega) h0⟩
def VC (n : Nat) (f : T → Bool) (t : T) : Prop := ∀ (w : World) (p : Option Addr) (c : Nat), RowD (mem 0 w) w p c t.ts → Calls Try.prog n #[.agg #[.string t.a, .slice p t.ts.length c]] w fun e w' => e = .returned (.bool (f t)) ∧ BK w w'
set_option maxRecDepth 100000 in
set_option maxHeartbeats 4000000 in
theorem right42 (t : T) (hz : nd t ≤ 1000000) (hs : szT t) : VC 42 riT t := by
  induction t using T.ind with
  | h a ts ih =>
    intro w p c hp0
    have hp : RowD (mem 0 w) w p c ts := hp0
    show Calls Try.prog 42 #[.agg #[.string a, .slice p ts.length c]] w _
    rw [nd_mk] at hz
    rw [szT_mk] at hs
    have HL := Lib.hid (show ts.length ≤ 1000000 from by have := ndL_len ts; omega)
    have IH := Lib.hid (fun t ht => ih t ht (by have := ndL_mem ht; omega) (szL_iff.1 hs.2 t ht))
    have HP := Lib.hid hp
    have KA := Lib.hid (bk_alloc (BK.refl w) (.cells #[.string a, .slice p ts.length c] 25))
    have NA := Lib.hid (heap_alloc_new w (.cells #[.string a, .slice p ts.length c] 25))
    have x0 := cell_of_row _ w.heap.size 0 _ 25 (0, 0) NA.out
    have x1 := cell_of_row _ w.heap.size 1 _ 25 (0, 0) NA.out
    have A47 := Lib.hid (fun w => atom47 w a hs.1 0 (Nat.zero_le _))
    rw [riT_mk]
    clear hp hp0 ih hz hs
    by_cases ha : a.size = 0
    · rw [if_pos ha]
      have ea := empty_size ha
      subst ea
      clear ha A47
      generalize hr : riL ts = r
      have HR := Lib.hid hr
      clear hr
      go_enter Try.func42, Try.ntmps42
      go_wp2_with fail
      generalize w.alloc (.cells #[.string ⟨#[]⟩, .slice p ts.length c] 25) = w1 at *
      clear x0 x1
      go_loopw [3] (fun iv wr => ∃ (k : Nat), k ≤ ts.length ∧ iv = .int .i64 (k : Int) ∧ riL (ts.drop k) = r ∧ BK w1 wr) (fun iv _ => ts.length - (intOf iv).toNat)
      case atStart => exact ⟨0, Nat.zero_le _, rfl, HR.out, BK.refl _⟩
      case round =>
        obtain ⟨k, hk, rfl, heq, hb⟩ := hrel
        have EQ := Lib.hid heq
        have KB := Lib.hid hb
        have B2 := Lib.hid ((bk_block hb (Array.getElem?_eq_some_iff.1 NA.out).1).trans NA.out)
        have x0 := cell_of_row _ w.heap.size 0 _ 25 (0, 0) B2.out
        have x1 := cell_of_row _ w.heap.size 1 _ 25 (0, 0) B2.out
        clear heq hb
        by_cases e : k = ts.length
        · have hd : decide (k < ts.length) = false := by simp [e]
          have EQ2 := EQ.out
          rw [List.drop_of_length_le (by omega), riL_nil] at EQ2
          subst EQ2
          subst e
          go_wp2_with fail
          go_ret
          exact ⟨rfl, bk_tr KA.out KB.out⟩
        · have hlt : k < ts.length := by omega
          have hd : decide (k < ts.length) = true := by simpa using hlt
          obtain ⟨b, o, a', us, q, d, rfl, -, he, z0, z1, hrr⟩ := ((HP.out.bk KA.out (Nat.le_refl _)).bk KB.out (Nat.le_refl _)).get hlt
          have EQ2 := EQ.out
          rw [List.drop_eq_getElem_cons hlt, riL_cons, he] at EQ2
          have CC := Lib.hid (show Calls Try.prog 42 #[.agg #[.string a', .slice q us.length d]] wr _ from by
            have := IH.out ts[k] (List.getElem_mem hlt) wr q d (by rw [he]; exact hrr)
            rw [he] at this
            exact this)
          have EQ3 := Lib.hid EQ2
          have ei : IntKind.i64.wrap ((k : Int) + 1) = (k : Int) + 1 := by have := HL.out; exact IntWalk.i64_in _ (by omega)
          have hki : (k : Int) < (ts.length : Int) := by omega
          have HLT := Lib.hid hlt
          clear hrr he e EQ2
          generalize riT (T.mk a' us) = bb at *
          go_wp2_with fail
          refine CC.out.mono ?_
          rintro e w2 ⟨rfl, hb2⟩
          have K2 := Lib.hid (bk_tr KB.out hb2)
          clear hb2
          cases bb with
          | false =>
            have EQ4 := EQ3.out
            rw [if_neg (by decide)] at EQ4
            subst EQ4
            go_wp2_with fail
            go_ret
            exact ⟨rfl, bk_tr KA.out K2.out⟩
          | true =>
            have EQ4 := Lib.hid (show riL (ts.drop (k + 1)) = r from by have := EQ3.out; rwa [if_pos rfl] at this)
            go_wp2_with fail
            go_roundw
            case rel => exact ⟨k + 1, by have := HLT.out; omega, by go_num, EQ4.out, K2.out⟩
            case measure => have := HLT.out; simp [intOf]; omega
    · rw [if_neg ha]
      have he := empty_str a ha
      clear ha
      cases ts with
      | cons u us =>
        rw [if_neg (by simp)]
        have h0 : (((u :: us).length : Int) == 0) = false := by simp; omega
        generalize (u :: us).length = n at *
        clear IH HP A47
        go_enter Try.func42, Try.ntmps42
        go_wp2_with fail
        go_quiet (fail)
        go_wp2_with fail
        go_ret
        exact ⟨rfl, bk_drewN KA.out _⟩
      | nil =>
        rw [if_pos (show ([] : List T).length = 0 from rfl)]
        simp only [List.length_nil] at KA NA x0 x1 ⊢
        have AB := Lib.hid (show atB a = if ae (xo a) 0 = a.size then true else false from rfl)
        generalize atB a = bb at *
        generalize ae (xo a) 0 = m at *
        clear IH HP
        by_cases hm : m = a.size
        · have AB2 := AB.out
          rw [if_pos hm] at AB2
          subst AB2
          subst hm
          go_enter Try.func42, Try.ntmps42
          go_wp2_with fail
          go_quiet (go_must (go_at_call 47; exact Calls.quiet_of_same ((A47.out _).mono fun e w' h => ⟨h.1, h.2.symm⟩)))
          go_wp2_with fail
          go_ret
          exact ⟨rfl, bk_drewN KA.out _⟩
        · have AB2 := AB.out
          rw [if_neg hm] at AB2
          subst AB2
          have hq : ((m : Int) == (a.size : Int)) = false := ne_cast hm
          clear hm
          go_enter Try.func42, Try.ntmps42
          go_wp2_with fail
          go_quiet (go_must (go_at_call 47; exact Calls.quiet_of_same ((A47.out _).mono fun e w' h => ⟨h.1, h.2.symm⟩)))
          go_wp2_with fail
          go_ret
          exact ⟨rfl, bk_drewN KA.out _⟩
set_option maxRecDepth 100000 in
set_option maxHeartbeats 4000000 in
theorem valid23 (t : T) (hz : nd t ≤ 1000000) (hs : szT t) : VC 23 vaT t := by
  intro w p c hp
  have KA := Lib.hid (bk_alloc (BK.refl w) (.cells #[.string t.a, .slice p t.ts.length c] 25))
  have NA := Lib.hid (heap_alloc_new w (.cells #[.string t.a, .slice p t.ts.length c] 25))
  have x0 := cell_of_row _ w.heap.size 0 _ 25 (0, 0) NA.out
  have x1 := cell_of_row _ w.heap.size 1 _ 25 (0, 0) NA.out
  have C42 := Lib.hid (right42 t hz hs _ p c (hp.bk KA.out (Nat.le_refl _)))
  have C25 := Lib.hid (fun wc hb => dep25 t wc p c ((hp.bk KA.out (Nat.le_refl _)).bk hb (Nat.le_refl _)) hz)
  have VB := Lib.hid (show vaT t = if riT t = true ∧ dpT t ≤ 64 then true else false from rfl)
  clear hp hz hs
  generalize vaT t = r at *
  generalize riT t = b at *
  generalize dpT t = d at *
  go_enter Try.func23, Try.ntmps23
  go_wp2_with fail
  refine C42.out.mono ?_
  rintro e w2 ⟨rfl, hb2⟩
  have K2 := Lib.hid (bk_tr KA.out hb2)
  have B2 := Lib.hid ((bk_block hb2 (Array.getElem?_eq_some_iff.1 NA.out).1).trans NA.out)
  have y0 := cell_of_row _ w.heap.size 0 _ 25 (0, 0) B2.out
  have y1 := cell_of_row _ w.heap.size 1 _ 25 (0, 0) B2.out
  have CD := Lib.hid (C25.out _ hb2)
  clear hb2
  have VB2 := VB.out
  cases b with
  | false =>
    rw [if_neg (by simp)] at VB2
    subst VB2
    go_wp2_with fail
    go_ret
    exact ⟨rfl, K2.out⟩
  | true =>
    go_wp2_with fail
    refine CD.out.mono ?_
    rintro e w3 ⟨rfl, hb3⟩
    have K3 := Lib.hid (bk_tr K2.out hb3)
    clear hb3
    by_cases h64 : d ≤ 64
    · rw [if_pos ⟨by simp, h64⟩] at VB2
      subst VB2
      have hi : (d : Int) ≤ 64 := by omega
      go_wp2_with fail
      go_ret
      exact ⟨ret_bool (by simp [hi]), K3.out⟩
    · rw [if_neg (fun h => h64 h.2)] at VB2
      subst VB2
      have hi : ¬ (d : Int) ≤ 64 := by omega
      go_wp2_with fail
      go_ret
      exact ⟨ret_bool (by simp [hi]), K3.out⟩
end Go.Proofs.Ytgiheheakgigkaa
