/- The program's hasValidAtoms and Valid. -/
import Derived.Test.YtgiheheakgigkaaAN
namespace Go.Proofs.Ytgiheheakgigkaa
open Go.RowKit
set_option linter.unusedVariables false
set_option linter.unusedSimpArgs false
set_option maxRecDepth 100000 in
set_option maxHeartbeats 4000000 in
theorem neg54 (t : T) (h : VC 41 riT t) : VC 54 (fun t => !riT t) t := by
  intro w p c hp
  have KA := Lib.hid (bk_alloc (BK.refl w) (.cells #[.string t.a, .slice p t.ts.length c] 25))
  have NA := Lib.hid (heap_alloc_new w (.cells #[.string t.a, .slice p t.ts.length c] 25))
  have x0 := cell_of_row _ w.heap.size 0 _ 25 (0, 0) NA.out
  have x1 := cell_of_row _ w.heap.size 1 _ 25 (0, 0) NA.out
  have CC := Lib.hid (h _ p c (hp.bk KA.out (Nat.le_refl _)))
  clear hp h
  dsimp only
  generalize riT t = b at *
  go_enter Try.func54, Try.ntmps54
  go_wp2_with fail
  refine CC.out.mono ?_
  rintro e w2 ⟨rfl, hb2⟩
  have K2 := Lib.hid (bk_tr KA.out hb2)
  clear hb2
  go_wp2_with fail
  go_ret
  exact ⟨rfl, K2.out⟩
set_option maxRecDepth 100000 in
set_option maxHeartbeats 4000000 in
theorem index56 (ts : List T) (hl : ts.length ≤ 1000000) (ih : ∀ t ∈ ts, VC 54 (fun t => !riT t) t) (w : World) (p : Option Addr) (c : Nat) (hp : RowD (mem 0 w) w p c ts) : Calls Try.prog 56 #[.slice p ts.length c, .func (.func 54) #[] #[]] w fun e w' => (∃ z : Int, e = .returned (.int .i64 z) ∧ (if riL ts = true then z = -1 else 0 ≤ z)) ∧ BK w w' := by
  have HP := Lib.hid hp
  have IH := Lib.hid ih
  have HL := Lib.hid hl
  clear hp ih hl
  generalize hr : riL ts = r
  have HR := Lib.hid hr
  clear hr
  go_enter Try.func56, Try.ntmps56
  go_wp2_with fail
  go_loopw [8] (fun iv wr => ∃ (k : Nat), k ≤ ts.length ∧ iv = .int .i64 (k : Int) ∧ riL (ts.drop k) = r ∧ BK w wr) (fun iv _ => ts.length - (intOf iv).toNat)
  case atStart => exact ⟨0, Nat.zero_le _, rfl, HR.out, BK.refl _⟩
  case round =>
    obtain ⟨k, hk, rfl, heq, hb⟩ := hrel
    have EQ := Lib.hid heq
    have KB := Lib.hid hb
    clear heq hb
    by_cases e : k = ts.length
    · have hd : decide (k < ts.length) = false := by simp [e]
      have EQ2 := EQ.out
      rw [List.drop_of_length_le (by omega), riL_nil] at EQ2
      subst EQ2
      subst e
      go_wp2_with fail
      go_ret
      first | exact ⟨⟨-1, rfl, rfl⟩, KB.out⟩ | exact ⟨rfl, KB.out⟩ | exact ⟨by simp, KB.out⟩
    · have hlt : k < ts.length := by omega
      have hd : decide (k < ts.length) = true := by simpa using hlt
      obtain ⟨b, o, a', us, q, d, rfl, -, he, z0, z1, hrr⟩ := (HP.out.bk KB.out (Nat.le_refl _)).get hlt
      have EQ2 := EQ.out
      rw [List.drop_eq_getElem_cons hlt, riL_cons, he] at EQ2
      have CC := Lib.hid (show Calls Try.prog 54 #[.agg #[.string a', .slice q us.length d]] wr (fun e w' => e = .returned (.bool (!riT (T.mk a' us))) ∧ BK wr w') from by
        have := IH.out ts[k] (List.getElem_mem hlt) wr q d (by rw [he]; exact hrr)
        rw [he] at this
        exact this)
      have EQ3 := Lib.hid EQ2
      have ei : IntKind.i64.wrap ((k : Int) + 1) = (k : Int) + 1 := by have := HL.out; exact IntWalk.i64_in _ (by omega)
      have hki : (k : Int) < (ts.length : Int) := by omega
      have HLT := Lib.hid hlt
      clear hrr he e EQ2
      generalize riT (T.mk a' us) = bb at *
      cases bb with
      | false =>
        have EQ4 := EQ3.out
        rw [if_neg (by decide)] at EQ4
        subst EQ4
        go_wp2_with fail
        refine CC.out.mono ?_
        rintro e w2 ⟨rfl, hb2⟩
        have K2 := Lib.hid (bk_tr KB.out hb2)
        clear hb2
        go_wp2_with fail
        go_ret
        first | exact ⟨⟨(k : Int), rfl, by simp⟩, K2.out⟩ | exact ⟨by simp, K2.out⟩
      | true =>
        have EQ4 := Lib.hid (show riL (ts.drop (k + 1)) = r from by have := EQ3.out; rwa [if_pos rfl] at this)
        go_wp2_with fail
        refine CC.out.mono ?_
        rintro e w2 ⟨rfl, hb2⟩
        have K2 := Lib.hid (bk_tr KB.out hb2)
        clear hb2
        go_wp2_with fail
        go_roundw
        case rel => exact ⟨k + 1, by have := HLT.out; omega, by go_num, EQ4.out, K2.out⟩
        case measure => have := HLT.out; simp [intOf]; omega
set_option maxRecDepth 100000 in
set_option maxHeartbeats 4000000 in
theorem contains53 (ts : List T) (hl : ts.length ≤ 1000000) (ih : ∀ t ∈ ts, VC 54 (fun t => !riT t) t) (w : World) (p : Option Addr) (c : Nat) (hp : RowD (mem 0 w) w p c ts) : Calls Try.prog 53 #[.slice p ts.length c, .func (.func 54) #[] #[]] w fun e w' => e = .returned (.bool (!riL ts)) ∧ BK w w' := by
  have CC := Lib.hid (index56 ts hl ih w p c hp)
  clear hp ih hl
  generalize riL ts = r at *
  go_enter Try.func53, Try.ntmps53
  go_wp2_with fail
  refine CC.out.mono ?_
  rintro e w2 ⟨⟨z, rfl, hz⟩, hb2⟩
  have K2 := Lib.hid hb2
  clear hb2
  cases r with
  | false =>
    rw [if_neg (by decide)] at hz
    go_wp2_with fail
    go_ret
    exact ⟨ret_bool (by simp [hz]), K2.out⟩
  | true =>
    rw [if_pos rfl] at hz
    subst hz
    go_wp2_with fail
    go_ret
    exact ⟨rfl, K2.out⟩
theorem atB_iff {a : ByteArray} : atB a = if ae (xo a) 0 = a.size then true else false := rfl
set_option maxRecDepth 100000 in
set_option maxHeartbeats 4000000 in
theorem valid41 (t : T) (hz : nd t ≤ 1000000) (hs : szT t) : VC 41 riT t := by
  induction t using T.ind with
  | h a ts ih =>
    intro w p c hp0
    have hp : RowD (mem 0 w) w p c ts := hp0
    show Calls Try.prog 41 #[.agg #[.string a, .slice p ts.length c]] w _
    rw [nd_mk] at hz
    rw [szT_mk] at hs
    have HL := Lib.hid (show ts.length ≤ 1000000 from by have := ndL_len ts; omega)
    have IH := Lib.hid (fun t ht => neg54 t (ih t ht (by have := ndL_mem ht; omega) (szL_iff.1 hs.2 t ht)))
    have HP := Lib.hid hp
    have KA := Lib.hid (bk_alloc (BK.refl w) (.cells #[.string a, .slice p ts.length c] 25))
    have NA := Lib.hid (heap_alloc_new w (.cells #[.string a, .slice p ts.length c] 25))
    have x0 := cell_of_row _ w.heap.size 0 _ 25 (0, 0) NA.out
    have x1 := cell_of_row _ w.heap.size 1 _ 25 (0, 0) NA.out
    have HS := Lib.hid hs.1
    have I48 := Lib.hid (fun c w => isab48 c w)
    have C53 := Lib.hid (contains53 ts HL.out IH.out _ p c (HP.out.bk KA.out (Nat.le_refl _)))
    have RI := Lib.hid (riT_mk a ts)
    obtain ⟨r, hr⟩ : ∃ r, r = riT (.mk a ts) := ⟨_, rfl⟩
    rw [← hr] at RI ⊢
    have AT := Lib.hid (atB_iff (a := a))
    obtain ⟨m, hm⟩ : ∃ m, m = ae (xo a) 0 := ⟨_, rfl⟩
    rw [← hm] at AT
    have HM := Lib.hid hm.symm
    clear hp hp0 ih hz hs hr hm IH HP
    go_enter Try.func41, Try.ntmps41
    go_wp2_with fail
    go_loopw [7] (fun iv wr => ∃ (k : Nat), k ≤ a.size ∧ iv = .int .i64 (k : Int) ∧ ae (xo a) k = m ∧ (w.alloc (.cells #[.string a, .slice p ts.length c] 25)) = wr) (fun iv _ => a.size - (intOf iv).toNat)
    case atStart => exact ⟨0, Nat.zero_le _, rfl, HM.out, rfl⟩
    case round =>
      obtain ⟨k, hk, rfl, hae, rfl⟩ := hrel
      have AE := Lib.hid hae
      clear hae
      by_cases e : k = a.size
      · have hd : decide (k < a.size) = false := by simp [e]
        have E := AE.out
        rw [ae_end (by rw [xo_n, e]; exact Nat.le_refl _), e] at E
        have AT2 := AT.out
        rw [if_pos E.symm] at AT2
        by_cases ha : a.size = 0
        · have ea := empty_size ha
          subst ea
          have RI2 := RI.out
          rw [if_pos (show (⟨#[]⟩ : ByteArray).size = 0 from rfl)] at RI2
          rw [← RI2] at C53
          clear E AT2 RI2 ha
          subst e
          go_wp2_with fail
          refine C53.out.mono ?_
          rintro e w2 ⟨rfl, hb2⟩
          have K2 := Lib.hid (bk_tr KA.out hb2)
          clear hb2
          go_wp2_with fail
          go_ret
          exact ⟨ret_bool (by simp), K2.out⟩
        · have RI2 := RI.out
          rw [if_neg ha, AT2] at RI2
          have he := empty_str a ha
          clear E AT2 ha C53
          subst e
          cases ts with
          | nil =>
            rw [if_pos (show ([] : List T).length = 0 from rfl)] at RI2
            subst RI2
            simp only [List.length_nil] at KA NA x0 x1 ⊢
            go_wp2_with fail
            go_ret
            exact ⟨rfl, KA.out⟩
          | cons u us =>
            rw [if_neg (by simp)] at RI2
            subst RI2
            have h0 : (((u :: us).length : Int) == 0) = false := by simp; omega
            generalize (u :: us).length = n at *
            go_wp2_with fail
            go_ret
            exact ⟨rfl, KA.out⟩
      · have hlt : k < a.size := by omega
        have hd : decide (k < a.size) = true := by simpa using hlt
        have hx := idx9 hlt
        have ei : IntKind.i64.wrap ((k : Int) + 1) = (k : Int) + 1 := by have := HS.out; exact IntWalk.i64_in _ (by omega)
        have hki : (k : Int) < (a.size : Int) := by omega
        have E := AE.out
        rw [ae_step (show k < (xo a).n from hlt)] at E
        have HLT := Lib.hid hlt
        have EE := Lib.hid E
        clear E e C53
        generalize (xo a).f k = cc at *
        have C48 := Lib.hid (fun w => I48.out cc w)
        generalize hbb : ab cc = bb at *
        have HBB := Lib.hid hbb
        clear hbb
        cases bb with
        | true =>
          have E2 := Lib.hid (show ae (xo a) (k + 1) = m from by have := EE.out; rwa [if_pos rfl] at this)
          go_wp2_with fail
          refine (C48.out _).mono ?_
          rintro e w' ⟨rfl, rfl⟩
          go_wp2_with fail
          go_roundw
          case rel => exact ⟨k + 1, by have := HLT.out; omega, by go_num, E2.out, by first | rfl | trivial⟩
          case measure => have := HLT.out; simp [intOf]; omega
        | false =>
          have E2 : k = m := by have := EE.out; rwa [if_neg (by decide)] at this
          have AT2 := AT.out
          rw [if_neg (by omega)] at AT2
          have RI2 := RI.out
          rw [if_neg (by omega), AT2] at RI2
          rw [show (if ts.length = 0 then false else false) = false from by split <;> rfl] at RI2
          subst RI2
          clear E2 AT2
          go_wp2_with fail
          refine (C48.out _).mono ?_
          rintro e w' ⟨rfl, rfl⟩
          go_wp2_with fail
          go_ret
          exact ⟨rfl, KA.out⟩
set_option maxRecDepth 100000 in
set_option maxHeartbeats 4000000 in
theorem valid22 (t : T) (hz : nd t ≤ 1000000) (hs : szT t) : VC 22 vaT t := by
  intro w p c hp
  have KA := Lib.hid (bk_alloc (BK.refl w) (.cells #[.string t.a, .slice p t.ts.length c] 25))
  have NA := Lib.hid (heap_alloc_new w (.cells #[.string t.a, .slice p t.ts.length c] 25))
  have x0 := cell_of_row _ w.heap.size 0 _ 25 (0, 0) NA.out
  have x1 := cell_of_row _ w.heap.size 1 _ 25 (0, 0) NA.out
  have C24 := Lib.hid (depth24 t _ p c (hp.bk KA.out (Nat.le_refl _)) hz)
  have C41 := Lib.hid (fun wc hb => valid41 t hz hs wc p c ((hp.bk KA.out (Nat.le_refl _)).bk hb (Nat.le_refl _)))
  have VB := Lib.hid (show vaT t = if riT t = true ∧ dpT t ≤ 64 then true else false from rfl)
  clear hp hz hs
  generalize vaT t = r at *
  generalize riT t = b at *
  generalize dpT t = d at *
  go_enter Try.func22, Try.ntmps22
  go_wp2_with fail
  refine C24.out.mono ?_
  rintro e w2 ⟨rfl, hb2⟩
  have K2 := Lib.hid (bk_tr KA.out hb2)
  have B2 := Lib.hid ((bk_block hb2 (Array.getElem?_eq_some_iff.1 NA.out).1).trans NA.out)
  have y0 := cell_of_row _ w.heap.size 0 _ 25 (0, 0) B2.out
  have y1 := cell_of_row _ w.heap.size 1 _ 25 (0, 0) B2.out
  have CD := Lib.hid (C41.out _ hb2)
  clear hb2
  have VB2 := VB.out
  by_cases h64 : d ≤ 64
  · have hi : (d : Int) ≤ 64 := by omega
    have VB3 := Lib.hid (show r = b from by rw [VB2]; cases b <;> simp [h64])
    clear VB2
    go_wp2_with fail
    refine CD.out.mono ?_
    rintro e w3 ⟨rfl, hb3⟩
    have K3 := Lib.hid (bk_tr K2.out hb3)
    clear hb3
    go_wp2_with fail
    go_ret
    exact ⟨ret_bool (by rw [VB3.out]), K3.out⟩
  · have hi : ¬ (d : Int) ≤ 64 := by omega
    have VB3 := Lib.hid (show r = false from by rw [VB2, if_neg (fun h => h64 h.2)])
    clear VB2
    go_wp2_with fail
    go_ret
    exact ⟨ret_bool (by rw [VB3.out]), K2.out⟩
end Go.Proofs.Ytgiheheakgigkaa
