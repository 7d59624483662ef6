/- The reference: names, numbers, registers. -/
import Derived.Test.YtneidfbgdgegjaaGreatDoorOF
import Derived.Test.YtneidfbgdgegjaaGreatDoorLD
namespace Go.Proofs.YtneidfbgdgegjaaGreatDoor
open Go.RowKit Go.Shelf
set_option linter.unusedVariables false
set_option linter.unusedSimpArgs false
set_option maxHeartbeats 1000000 in
theorem kn14 (op : Int) (w : World) : Calls Tryz.prog 14 #[.int .i64 op] w fun e w' => e = .returned (.bool (opB op)) ∧ w = w' := by
  go_enter Tryz.func14, Tryz.ntmps14
  go_wp2
  all_goals go_ret
  all_goals exact ⟨ret_bool (by unfold opB; rw [Bool.eq_iff_iff]; simp; try omega), rfl⟩
set_option maxHeartbeats 1000000 in
theorem src17 (op : Int) (w : World) : Calls Tryz.prog 17 #[.int .i64 op] w fun e w' => e = .returned (.int .i64 (srcs op)) ∧ w = w' := by
  have H := Lib.hid (kn14 op)
  by_cases h : opB op = true
  · have h1 : 0 ≤ op ∧ op ≤ 19 := by unfold opB at h; simpa using h
    rw [h] at H
    clear h
    go_enter Tryz.func17, Tryz.ntmps17
    go_wp2_with (go_at_call 14; refine (H.out _).mono ?_; rintro e w' ⟨rfl, rfl⟩)
    all_goals go_ret
    all_goals refine ⟨?_, rfl⟩
    all_goals (try simp only [beq_iff_eq, beq_eq_false_iff_ne] at *)
    all_goals exact ret_int (by unfold srcs; (repeat' split) <;> omega)
  · have h : opB op = false := by simpa using h
    have h1 : op < 0 ∨ 19 < op := by unfold opB at h; have := of_decide_eq_false h; omega
    rw [h] at H
    clear h
    go_enter Tryz.func17, Tryz.ntmps17
    go_wp2_with (go_at_call 14; refine (H.out _).mono ?_; rintro e w' ⟨rfl, rfl⟩)
    all_goals go_ret
    all_goals refine ⟨?_, rfl⟩
    all_goals (try simp only [beq_iff_eq, beq_eq_false_iff_ne] at *)
    all_goals exact ret_int (by unfold srcs; (repeat' split) <;> omega)
set_option maxHeartbeats 1000000 in
theorem uses31 (i : I6) (w : World) : Calls Tryz.prog 31 #[.agg #[.int .i64 i.op, .int .i64 i.dst, .int .i64 i.a, .int .i64 i.b, .int .i64 i.c, .int .u64 i.imm]] w (UP w i) := by
  have HK := Lib.hid (bk_alloc (BK.refl w) (.cells #[.int .i64 i.op, .int .i64 i.dst, .int .i64 i.a, .int .i64 i.b, .int .i64 i.c, .int .u64 i.imm] 42))
  have hs := sz1 w (.cells #[.int .i64 i.op, .int .i64 i.dst, .int .i64 i.a, .int .i64 i.b, .int .i64 i.c, .int .u64 i.imm] 42)
  have H := Lib.hid (src17 i.op)
  rcases srcs_cases i.op with h | h | h | h | h
  · rw [h] at H
    have U := Lib.hid (ro_three (w.alloc (.cells #[.int .i64 i.op, .int .i64 i.dst, .int .i64 i.a, .int .i64 i.b, .int .i64 i.c, .int .u64 i.imm] 42)) i.a i.b i.c 0 (by omega))
    rw [hs] at U
    have E := Lib.hid (usesL_neg i h)
    clear h hs
    go_enter Tryz.func31, Tryz.ntmps31
    go_wp2_with (go_at_call 17; refine (H.out _).mono ?_; rintro e w' ⟨rfl, rfl⟩)
    go_ret
    exact ⟨_, _, by rw [E.out]; rfl, by rw [E.out]; exact U.out, bk_alloc HK.out _⟩
  · rw [h] at H
    have U := Lib.hid (up_three w i 0 h (by omega) _ HK.out)
    rw [hs] at U
    clear h hs
    go_enter Tryz.func31, Tryz.ntmps31
    go_wp2_with (go_at_call 17; refine (H.out _).mono ?_; rintro e w' ⟨rfl, rfl⟩)
    go_ret
    exact U.out
  · rw [h] at H
    have U := Lib.hid (up_three w i 1 h (by omega) _ HK.out)
    rw [hs] at U
    clear h hs
    go_enter Tryz.func31, Tryz.ntmps31
    go_wp2_with (go_at_call 17; refine (H.out _).mono ?_; rintro e w' ⟨rfl, rfl⟩)
    go_ret
    exact U.out
  · rw [h] at H
    have U := Lib.hid (up_three w i 2 h (by omega) _ HK.out)
    rw [hs] at U
    clear h hs
    go_enter Tryz.func31, Tryz.ntmps31
    go_wp2_with (go_at_call 17; refine (H.out _).mono ?_; rintro e w' ⟨rfl, rfl⟩)
    go_ret
    exact U.out
  · rw [h] at H
    have U := Lib.hid (up_three w i 3 h (by omega) _ HK.out)
    rw [hs] at U
    clear h hs
    go_enter Tryz.func31, Tryz.ntmps31
    go_wp2_with (go_at_call 17; refine (H.out _).mono ?_; rintro e w' ⟨rfl, rfl⟩)
    go_ret
    exact U.out
set_option maxHeartbeats 1000000 in
theorem def28 (i : I6) (w : World) : Calls Tryz.prog 28 #[.agg #[.int .i64 i.op, .int .i64 i.dst, .int .i64 i.a, .int .i64 i.b, .int .i64 i.c, .int .u64 i.imm]] w fun e w' => e = .returned (.tuple #[.int .i64 (defV i), .bool (dfB i.op)]) ∧ BK w w' := by
  have HK := Lib.hid (bk_alloc (BK.refl w) (.cells #[.int .i64 i.op, .int .i64 i.dst, .int .i64 i.a, .int .i64 i.b, .int .i64 i.c, .int .u64 i.imm] 42))
  have H := Lib.hid (kn14 i.op)
  cases ho : opB i.op with
  | true =>
    have h1 : 0 ≤ i.op ∧ i.op ≤ 19 := by unfold opB at ho; simpa using ho
    rw [ho] at H
    by_cases h0 : i.op = 0
    · have HV := Lib.hid (show defV i = 0 ∧ dfB i.op = false from by unfold defV; rw [h0]; exact ⟨rfl, rfl⟩)
      clear ho h1
      obtain ⟨op, d, a, b, c, m⟩ := i
      have h0 : op = 0 := h0
      subst h0
      go_enter Tryz.func28, Tryz.ntmps28
      go_wp2_with (go_at_call 14; refine (H.out _).mono ?_; rintro e w' ⟨rfl, rfl⟩)
      go_ret2
      exact ⟨by rw [HV.out.1, HV.out.2]; rfl, HK.out⟩
    · have hd : dfB i.op = true := by unfold dfB; apply decide_eq_true; omega
      have HV := Lib.hid (show defV i = i.dst ∧ dfB i.op = true from ⟨by unfold defV; rw [if_pos hd], hd⟩)
      have hn : (i.op == 0) = false := by simpa using h0
      clear ho h1 hd
      go_enter Tryz.func28, Tryz.ntmps28
      go_wp2_with (go_at_call 14; refine (H.out _).mono ?_; rintro e w' ⟨rfl, rfl⟩)
      go_ret2
      exact ⟨by rw [HV.out.1, HV.out.2]; rfl, HK.out⟩
  | false =>
    have hd : dfB i.op = false := by unfold dfB; apply decide_eq_false; unfold opB at ho; have := of_decide_eq_false ho; omega
    have HV := Lib.hid (show defV i = 0 ∧ dfB i.op = false from ⟨by unfold defV; rw [hd]; rfl, hd⟩)
    rw [ho] at H
    clear ho hd
    go_enter Tryz.func28, Tryz.ntmps28
    go_wp2_with (go_at_call 14; refine (H.out _).mono ?_; rintro e w' ⟨rfl, rfl⟩)
    go_ret2
    exact ⟨by rw [HV.out.1, HV.out.2]; rfl, HK.out⟩
/-! equal lists -/
def eqL (l m : List Int) : Bool := decide (l = m)
def EqTo (l m : List Int) (k : Nat) : Prop := l.take k = m.take k
theorem eqto_snoc {l m : List Int} {k : Nat} (h1 : k < l.length) (h2 : k < m.length) (h : EqTo l m k) (e : l[k] = m[k]) : EqTo l m (k + 1) := by
  unfold EqTo at *
  rw [List.take_succ_eq_append_getElem h1, List.take_succ_eq_append_getElem h2, h, e]
theorem eql_no {l m : List Int} {k : Nat} (h1 : k < l.length) (h2 : k < m.length) (e : ¬ l[k] = m[k]) : eqL l m = false := by
  unfold eqL; apply decide_eq_false; intro h; subst h; exact e rfl
set_option maxHeartbeats 1000000 in
theorem same29 (l m : List Int) (p q : Option Addr) (c d : Nat) (w : World) (h : RO w p c l) (h' : RO w q d m) (hl : l.length ≤ 100000) (hm : m.length ≤ 100000) :
    Calls Tryz.prog 29 #[.slice p l.length c, .slice q m.length d] w fun e w' => e = .returned (.bool (eqL l m)) ∧ BK w w' := by
  by_cases hne : l.length = m.length
  · have HN := Lib.hid hne
    have hb : ((l.length : Int) != (m.length : Int)) = false := by rw [hne]; simp
    have HR := Lib.hid h
    have HR' := Lib.hid h'
    clear h h' hne
    go_enter Tryz.func29, Tryz.ntmps29
    go_wp2_with fail
    go_loopw [5] (fun i wr => ∃ k : Nat, k ≤ l.length ∧ i = .int .i64 k ∧ EqTo l m k ∧ BK w wr) (fun i _ => l.length - (intOf i).toNat)
    case atStart => exact ⟨0, Nat.zero_le _, rfl, by unfold EqTo; simp, BK.refl _⟩
    case round =>
      obtain ⟨k, hk, rfl, hs, hkw⟩ := hrel
      have HS := Lib.hid hs
      have HK := Lib.hid hkw
      by_cases hlt : k < l.length
      · have hlt2 : k < m.length := by have := HN.out; omega
        obtain ⟨b, o, rfl, hc⟩ := (HR.out.keep hkw).get k hlt
        obtain ⟨b', o', rfl, hc'⟩ := (HR'.out.keep hkw).get k hlt2
        have HY := Lib.hid (fun e => eqto_snoc hlt hlt2 HS.out e)
        have HNo := Lib.hid (fun e => eql_no (l := l) (m := m) hlt hlt2 e)
        clear hs hkw
        generalize l[k] = x at hc HY HNo
        generalize m[k] = y at hc' HY HNo
        by_cases hxy : x = y
        · have H1 := Lib.hid (HY.out hxy)
          subst hxy
          go_wp2_with fail
          go_quiet (fail)
          go_wp2_with fail
          go_roundw
          case rel => exact ⟨k + 1, by omega, by go_num, H1.out, bk_drewN HK.out _⟩
          case measure => simp [intOf]; omega
        · have H1 := Lib.hid (HNo.out hxy)
          have hd : (x != y) = true := by simpa using hxy
          clear hxy
          go_wp2_with fail
          go_quiet (fail)
          go_wp2_with fail
          go_ret
          exact ⟨ret_bool H1.out.symm, bk_drewN HK.out _⟩
      · obtain rfl : k = l.length := by omega
        clear hs hkw
        go_wp2_with fail
        go_ret
        refine ⟨ret_bool ?_, HK.out⟩
        have h := HS.out
        unfold EqTo at h
        rw [List.take_length, HN.out, List.take_length] at h
        unfold eqL; symm; exact decide_eq_true h
  · have hb : ((l.length : Int) != (m.length : Int)) = true := by simp; omega
    have HE := Lib.hid (show eqL l m = false from by unfold eqL; apply decide_eq_false; intro h; exact hne (by rw [h]))
    clear hne
    go_enter Tryz.func29, Tryz.ntmps29
    go_wp2_with fail
    go_ret
    exact ⟨ret_bool HE.out.symm, BK.refl _⟩

set_option maxRecDepth 100000 in
set_option maxHeartbeats 2000000 in
theorem name15 (op : Int) (w : World) : Calls Tryz.prog 15 #[.int .i64 op] w fun e w' => e = .returned (.string (nameB op)) ∧ BK w w' := by
  cases ho : opB op with
  | true =>
    have hr : 0 ≤ op ∧ op ≤ 19 := by unfold opB at ho; exact of_decide_eq_true ho
    obtain ⟨n, rfl⟩ := Int.eq_ofNat_of_zero_le hr.1
    have h1 : n < 20 := by omega
    have HN := Lib.hid (heap_alloc_new w (.cells nmA 9))
    have HK := Lib.hid (bk_alloc (BK.refl w) (.cells nmA 9))
    have hc : (w.alloc (.cells nmA 9)).cell? ⟨w.heap.size, n, none⟩ = some (.string (nmB n)) := by
      rw [cell_of_row _ w.heap.size n nmA 9 (0, 0) HN.out]; exact nmA_at n h1
    have HC := Lib.hid hc
    have HV := Lib.hid (show nameB (n : Int) = nmB n by unfold nameB nameL; rw [if_pos ho]; rfl)
    have H39 := Lib.hid (fun W => kn14 (n : Int) W)
    rw [ho] at H39
    clear ho hc
    have i0 : (0 : Int) ≤ (n : Int) := by omega
    have i1 : (n : Int) < 20 := by omega
    unfold nmA at HC HK HN
    simp only [nmT, List.map_cons, List.map_nil] at HC HK HN
    go_enter Tryz.func15, Tryz.ntmps15
    go_upto_region 3 with (go_at_call 14; refine (H39.out _).mono ?_; rintro e w' ⟨rfl, rfl⟩)
    have hc := HC.out
    go_wp2_with fail
    go_ret
    exact ⟨ret_str HV.out.symm, HK.out⟩
  | false =>
    have HV := Lib.hid (show nameB op = ⟨#[]⟩ by unfold nameB nameL; rw [if_neg (by rw [ho]; simp)])
    have H39 := Lib.hid (fun W => kn14 op W)
    rw [ho] at H39
    clear ho
    go_enter Tryz.func15, Tryz.ntmps15
    go_wp2_with (go_at_call 14; refine (H39.out _).mono ?_; rintro e w' ⟨rfl, rfl⟩)
    go_ret
    exact ⟨ret_str HV.out.symm, BK.refl _⟩
def trB (op : Int) : Bool := decide (op = 11 ∨ op = 12)
set_option maxHeartbeats 1000000 in
theorem trp19 (op : Int) (w : World) : Calls Tryz.prog 19 #[.int .i64 op] w fun e w' => e = .returned (.bool (trB op)) ∧ w = w' := by
  go_enter Tryz.func19, Tryz.ntmps19
  go_wp2
  all_goals go_ret
  all_goals exact ⟨ret_bool (by unfold trB; rw [Bool.eq_iff_iff]; simp; try omega), rfl⟩
set_option maxHeartbeats 1000000 in
theorem trp18 (op : Int) (w : World) : Calls Tryz.prog 18 #[.int .i64 op] w fun e w' => e = .returned (.bool (trB op)) ∧ w = w' := by
  go_enter Tryz.func18, Tryz.ntmps18
  go_wp2
  all_goals go_ret
  all_goals exact ⟨ret_bool (by unfold trB; rw [Bool.eq_iff_iff]; simp; try omega), rfl⟩
set_option maxHeartbeats 2000000 in
theorem price21 (op : Int) (w : World) : Calls Tryz.prog 21 #[.int .i64 op] w fun e w' => e = .returned (.int .i64 (priceV op)) ∧ w = w' := by
  have H14 := Lib.hid (fun W => kn14 op W)
  have H19 := Lib.hid (fun W => trp19 op W)
  have HV := Lib.hid (show priceV op = if dfB op = true then (if op = 10 then 3 else if op = 11 ∨ op = 12 then 12 else 1) else 0 from rfl)
  cases ho : opB op with
  | true =>
    have hr : 0 ≤ op ∧ op ≤ 19 := by unfold opB at ho; exact of_decide_eq_true ho
    rw [ho] at H14
    by_cases h0 : op = 0
    · subst h0
      clear ho hr
      go_enter Tryz.func21, Tryz.ntmps21
      go_wp2_with (go_at_call 14; refine (H14.out _).mono ?_; rintro e w' ⟨rfl, rfl⟩)
      go_ret
      exact ⟨rfl, rfl⟩
    · have hd : dfB op = true := by unfold dfB; apply decide_eq_true; omega
      rw [hd, if_pos rfl] at HV
      by_cases h10 : op = 10
      · subst h10
        clear ho hr hd
        go_enter Tryz.func21, Tryz.ntmps21
        go_wp2_with (go_at_call 14; refine (H14.out _).mono ?_; rintro e w' ⟨rfl, rfl⟩)
        go_ret
        exact ⟨rfl, rfl⟩
      · rw [if_neg h10] at HV
        have hn0 : (op == 0) = false := by simpa using h0
        have hn10 : (op == 10) = false := by simpa using h10
        cases hb : trB op with
        | true =>
          rw [if_pos (by unfold trB at hb; exact of_decide_eq_true hb)] at HV
          rw [hb] at H19
          clear ho hr hd hb h10 h0
          go_enter Tryz.func21, Tryz.ntmps21
          go_wp2_with (first | (go_at_call 14; refine (H14.out _).mono ?_; rintro e w' ⟨rfl, rfl⟩) | (go_at_call 19; refine (H19.out _).mono ?_; rintro e w' ⟨rfl, rfl⟩))
          go_ret
          exact ⟨ret_int HV.out.symm, rfl⟩
        | false =>
          rw [if_neg (by unfold trB at hb; exact of_decide_eq_false hb)] at HV
          rw [hb] at H19
          clear ho hr hd hb h10 h0
          go_enter Tryz.func21, Tryz.ntmps21
          go_wp2_with (first | (go_at_call 14; refine (H14.out _).mono ?_; rintro e w' ⟨rfl, rfl⟩) | (go_at_call 19; refine (H19.out _).mono ?_; rintro e w' ⟨rfl, rfl⟩))
          go_ret
          exact ⟨ret_int HV.out.symm, rfl⟩
  | false =>
    have hd : dfB op = false := by unfold dfB; apply decide_eq_false; unfold opB at ho; have := of_decide_eq_false ho; omega
    rw [hd] at HV
    rw [ho] at H14
    clear ho hd
    go_enter Tryz.func21, Tryz.ntmps21
    go_wp2_with (go_at_call 14; refine (H14.out _).mono ?_; rintro e w' ⟨rfl, rfl⟩)
    go_ret
    exact ⟨ret_int (by rw [HV.out]; rfl), rfl⟩
theorem nm_eq' (k : Nat) (hk : k < 20) (s : ByteArray) : ((nameB (k : Int)).toList == s.toList) = decide (nmT.getD k [] = bl s) := by
  rw [show nameB (k : Int) = nmB k by unfold nameB nameL; rw [if_pos (by unfold opB; apply decide_eq_true; omega)]; rfl]
  exact nm_eq k s
set_option maxHeartbeats 2000000 in
theorem of12 (s : ByteArray) (w : World) : Calls Tryz.prog 12 #[.string s] w fun e w' => e = .returned (ofV s) ∧ BK w w' := by
  have HX := Lib.hid (fun (k : Nat) (W : World) => name15 (k : Int) W)
  go_enter Tryz.func12, Tryz.ntmps12
  go_wp2_with fail
  go_loopw [4] (fun x wr => ∃ k : Nat, k ≤ 20 ∧ x = .int .i64 (k : Int) ∧ Hid (ofL (bl s) = ofK (20 - k) k (bl s)) ∧ BK w wr) (fun x _ => 20 - (intOf x).toNat)
  case atStart => exact ⟨0, Nat.zero_le _, rfl, Lib.hid rfl, BK.refl _⟩
  case round =>
    obtain ⟨k, hk, rfl, ho, hb⟩ := hrel
    have HB := Lib.hid hb
    clear hb
    by_cases hlt : k < 20
    · have HQ := Lib.hid (nm_eq' k hlt s)
      have HS := Lib.hid (ho.out.trans (ofK_step hlt _))
      have hk19 : (k : Int) ≤ 19 := by omega
      have hd19 : decide ((k : Int) ≤ 19) = true := decide_eq_true hk19
      have ei : IntKind.i64.wrap ((k : Int) + 1) = (k : Int) + 1 := IntWalk.i64_in _ (by omega)
      have C := Lib.hid (HX.out k wr)
      by_cases he : nmT.getD k [] = bl s
      · have hq : ((nameB (k : Int)).toList == s.toList) = true := by rw [HQ.out]; exact decide_eq_true he
        have HV := Lib.hid (show ofV s = .tuple #[.int .i64 (k : Int), .bool true] by unfold ofV; rw [HS.out, if_pos he])
        clear he ho
        go_wp2_with fail
        refine C.out.mono ?_
        rintro e w1 ⟨rfl, b1⟩
        have K1 := Lib.hid (bk_tr HB.out b1)
        clear b1 C
        go_wp2_with fail
        go_ret2
        exact ⟨ret_v HV.out.symm, K1.out⟩
      · have hq : ((nameB (k : Int)).toList == s.toList) = false := by rw [HQ.out]; exact decide_eq_false he
        have HS2 := Lib.hid (show ofL (bl s) = ofK (20 - (k + 1)) (k + 1) (bl s) by rw [HS.out, if_neg he])
        clear he ho
        go_wp2_with fail
        refine C.out.mono ?_
        rintro e w1 ⟨rfl, b1⟩
        have K1 := Lib.hid (bk_tr HB.out b1)
        clear b1 C
        go_wp2_with fail
        go_roundw
        case rel => exact ⟨k + 1, by omega, by go_num, HS2, K1.out⟩
        case measure => simp [intOf]; omega
    · obtain rfl : k = 20 := by omega
      have HV := Lib.hid (show ofV s = .tuple #[.int .i64 0, .bool false] by unfold ofV; rw [ho.out]; rfl)
      clear ho
      go_wp2_with fail
      go_ret2
      exact ⟨ret_v HV.out.symm, HB.out⟩
end Go.Proofs.YtneidfbgdgegjaaGreatDoor
