/- Names of operations: Name, Of; Price, Cost. -/
import Derived.Test.YtneidfbgdgegjaaGreatDoorRB
import Derived.Test.YtneidfbgdgegjaaGreatDoorLB
namespace Go.Proofs.YtneidfbgdgegjaaGreatDoor
open Go.RowKit
set_option linter.unusedVariables false
set_option linter.unusedSimpArgs false
def nmB (k : Nat) : ByteArray := ⟨(nmT.getD k []).toArray⟩
theorem nmA_size : nmA.size = 20 := rfl
theorem nmA_at (k : Nat) (h : k < 20) : nmA[k]? = some (.string (nmB k)) := by
  have h' : k < nmT.length := h
  simp [nmA, nmB, List.getD_eq_getElem?_getD, h']
def nameB (op : Int) : ByteArray := ⟨(nameL op).toArray⟩
set_option maxRecDepth 100000 in
set_option maxHeartbeats 1000000 in
theorem name13 (op : Int) (w : World) (ht : Tb w) : Calls Tryz.prog 13 #[.int .i64 op] w fun e w' => e = .returned (.string (nameB op)) ∧ w = w' := by
  cases ho : opB op with
  | true =>
    have hr : 0 ≤ op ∧ op ≤ 19 := by unfold opB at ho; exact of_decide_eq_true ho
    obtain ⟨n, rfl⟩ := Int.eq_ofNat_of_zero_le hr.1
    have h1 : n < 20 := by omega
    obtain ⟨t, fr, hb⟩ := ht.nms
    have hc : w.cell? ⟨0, n, none⟩ = some (.string (nmB n)) := by
      rw [cell_of_row w 0 n nmA t fr hb]; exact nmA_at n h1
    have HV := Lib.hid (show nameB (n : Int) = nmB n by unfold nameB nameL; rw [if_pos ho]; rfl)
    have H39 := Lib.hid (fun W => op87 (n : Int) W)
    rw [ho] at H39
    clear hb ht ho
    have i0 : (0 : Int) ≤ (n : Int) := by omega
    have i1 : (n : Int) < 20 := by omega
    go_enter Tryz.func13, Tryz.ntmps13
    go_wp2_with (go_at_call 39; refine (H39.out _).mono ?_; rintro e w' ⟨rfl, rfl⟩)
    go_ret
    exact ⟨ret_str HV.out.symm, rfl⟩
  | false =>
    have HV := Lib.hid (show nameB op = ⟨#[]⟩ by unfold nameB nameL; rw [if_neg (by rw [ho]; simp)])
    have H39 := Lib.hid (fun W => op87 op W)
    rw [ho] at H39
    clear ht ho
    go_enter Tryz.func13, Tryz.ntmps13
    go_wp2_with (go_at_call 39; refine (H39.out _).mono ?_; rintro e w' ⟨rfl, rfl⟩)
    go_ret
    exact ⟨ret_str HV.out.symm, rfl⟩
/-- an operation and whether there is one -/
def ofV (s : ByteArray) : Value := match ofL (bl s) with | some k => .tuple #[.int .i64 (k : Int), .bool true] | none => .tuple #[.int .i64 0, .bool false]
theorem nm_eq (k : Nat) (s : ByteArray) : ((nmB k).toList == s.toList) = decide (nmT.getD k [] = bl s) := by
  rw [ByteArray.toList_eq, ByteArray.toList_eq, Bool.eq_iff_iff, beq_iff_eq, decide_eq_true_eq]
  exact Iff.rfl
theorem idx56 (k : Nat) (hk : k < 20) (W : World) : (Instr.index 56 (.agg nmA) (.int .i64 (k : Int))).run Tryz.prog W = .ok (.string (nmB k)) W := by
  have hn : 0 ≤ (k : Int) ∧ (k : Int) < (20 : Nat) := by omega
  have h1 : (0 : Int) ≤ (k : Int) := by omega
  have h2 : (k : Int) < 20 := by omega
  have hg := nmA_at k hk
  simp [Instr.index, run_underlying Tryz.underlying56, asIntOf, hn, h1, h2, go_sem, Tryz.sizeOf9]
  rw [if_pos hk, hg]
  rfl
set_option maxRecDepth 100000 in
set_option maxHeartbeats 2000000 in
theorem of11 (s : ByteArray) (w : World) (ht : Tb w) : Calls Tryz.prog 11 #[.string s] w fun e w' => e = .returned (ofV s) ∧ w = w' := by
  obtain ⟨t, fr, hb⟩ := ht.nms
  have HB := Lib.hid hb
  clear hb ht
  have HX := Lib.hid (fun (k : Nat) (hk : k < 20) (W : World) => idx56 k hk W)
  go_enter Tryz.func11, Tryz.ntmps11
  go_upto_region 1 with (fail)
  refine wp_region_lit ?_
  refine wpList_load_row rfl 56 _ rfl 0 rfl t nmA fr _ HB.out Tryz.underlying56 rfl (by rw [nmA_size]; kernel_rfl) ?_
  go_wp2_with fail
  go_loopw [7] (fun x wr => ∃ k : Nat, k ≤ 20 ∧ x = .int .i64 (k : Int) ∧ Hid (ofL (bl s) = ofK (20 - k) k (bl s)) ∧ w = wr) (fun x _ => 20 - (intOf x).toNat)
  case atStart => exact ⟨0, Nat.zero_le _, rfl, Lib.hid rfl, rfl⟩
  case round =>
    obtain ⟨k, hk, rfl, ho, rfl⟩ := hrel
    by_cases hlt : k < 20
    · have hx := HX.out k hlt w
      have HQ := Lib.hid (nm_eq k s)
      have HS := Lib.hid (ho.out.trans (ofK_step hlt _))
      by_cases he : nmT.getD k [] = bl s
      · have hq : ((nmB k).toList == s.toList) = true := by rw [HQ.out]; exact decide_eq_true he
        have HV := Lib.hid (show ofV s = .tuple #[.int .i64 (k : Int), .bool true] by unfold ofV; rw [HS.out, if_pos he])
        clear he ho
        go_wp2_with fail
        go_ret2
        exact ⟨ret_v HV.out.symm, rfl⟩
      · have hq : ((nmB k).toList == s.toList) = false := by rw [HQ.out]; exact decide_eq_false he
        have HS2 := Lib.hid (show ofL (bl s) = ofK (20 - (k + 1)) (k + 1) (bl s) by rw [HS.out, if_neg he])
        clear he ho
        go_wp2_with fail
        go_roundw
        case rel => exact ⟨k + 1, by omega, by go_num, HS2, by trivial⟩
        case measure => simp [intOf]; omega
    · obtain rfl : k = 20 := by omega
      have HV := Lib.hid (show ofV s = .tuple #[.int .i64 0, .bool false] by unfold ofV; rw [ho.out]; rfl)
      clear ho
      go_wp2_with fail
      go_ret2
      exact ⟨ret_v HV.out.symm, rfl⟩
def priceV (op : Int) : Int := if dfB op = true then (if op = 10 then 3 else if op = 11 ∨ op = 12 then 12 else 1) else 0
def costV (l : List I6) : Int := (l.map fun i => priceV i.op).sum
theorem priceV_bd (op : Int) : 0 ≤ priceV op ∧ priceV op ≤ 12 := by unfold priceV; (repeat' split) <;> omega
theorem costV_snoc (l : List I6) (k : Nat) (h : k < l.length) : costV (l.take (k + 1)) = costV (l.take k) + priceV l[k].op := by
  unfold costV; rw [List.take_succ_eq_append_getElem h, List.map_append, List.sum_append]; simp
theorem costV_bd : ∀ l : List I6, 0 ≤ costV l ∧ costV l ≤ 12 * l.length
  | [] => by simp [costV]
  | i :: t => by
    have h1 := priceV_bd i.op
    have h2 := costV_bd t
    unfold costV at *
    simp only [List.map_cons, List.sum_cons, List.length_cons]
    omega
set_option maxHeartbeats 1000000 in
theorem price20 (op : Int) (w : World) : Calls Tryz.prog 20 #[.int .i64 op] w fun e w' => e = .returned (.int .i64 (priceV op)) ∧ w = w' := by
  have H40 := Lib.hid (fun W => df59 op W)
  have HV := Lib.hid (show priceV op = if dfB op = true then (if op = 10 then 3 else if op = 11 ∨ op = 12 then 12 else 1) else 0 from rfl)
  cases hd : dfB op with
  | true =>
    rw [hd] at H40 HV
    by_cases h10 : op = 10
    · subst h10
      go_enter Tryz.func20, Tryz.ntmps20
      go_wp2_with (go_at_call 40; refine (H40.out _).mono ?_; rintro e w' ⟨rfl, rfl⟩)
      go_ret
      exact ⟨rfl, rfl⟩
    · by_cases h11 : op = 11
      · subst h11
        go_enter Tryz.func20, Tryz.ntmps20
        go_wp2_with (go_at_call 40; refine (H40.out _).mono ?_; rintro e w' ⟨rfl, rfl⟩)
        go_ret
        exact ⟨rfl, rfl⟩
      · by_cases h12 : op = 12
        · subst h12
          go_enter Tryz.func20, Tryz.ntmps20
          go_wp2_with (go_at_call 40; refine (H40.out _).mono ?_; rintro e w' ⟨rfl, rfl⟩)
          go_ret
          exact ⟨rfl, rfl⟩
        · have HV2 := Lib.hid (show priceV op = 1 by rw [HV.out, if_pos rfl, if_neg h10, if_neg (by omega)])
          have d10 : (op == 10) = false := beq_eq_false_iff_ne.2 h10
          have d11 : (op == 11) = false := beq_eq_false_iff_ne.2 h11
          have d12 : (op == 12) = false := beq_eq_false_iff_ne.2 h12
          clear h10 h11 h12 hd
          go_enter Tryz.func20, Tryz.ntmps20
          go_wp2_with (go_at_call 40; refine (H40.out _).mono ?_; rintro e w' ⟨rfl, rfl⟩)
          go_ret
          exact ⟨ret_int HV2.out.symm, rfl⟩
  | false =>
    rw [hd] at H40 HV
    have hz : op < 1 ∨ 19 < op := by unfold dfB at hd; have := of_decide_eq_false hd; omega
    have HV2 := Lib.hid (show priceV op = 0 by rw [HV.out, if_neg (by simp)])
    have d10 : (op == 10) = false := beq_eq_false_iff_ne.2 (by omega)
    have d11 : (op == 11) = false := beq_eq_false_iff_ne.2 (by omega)
    have d12 : (op == 12) = false := beq_eq_false_iff_ne.2 (by omega)
    clear hz hd
    go_enter Tryz.func20, Tryz.ntmps20
    go_wp2_with (go_at_call 40; refine (H40.out _).mono ?_; rintro e w' ⟨rfl, rfl⟩)
    go_ret
    exact ⟨ret_int HV2.out.symm, rfl⟩
set_option maxRecDepth 100000 in
set_option maxHeartbeats 1000000 in
theorem cost25 (W R : Int) (p : Option Addr) (pc : Nat) (ins : List I6) (q : Option Addr) (m qc : Nat) (w : World) (hi : RI w p pc ins) (li : ins.length ≤ 1000) :
    Calls Tryz.prog 25 #[.agg #[.int .i64 W, .int .i64 R, .slice p ins.length pc, .slice q m qc]] w fun e w' => e = .returned (.int .i64 (costV ins)) ∧ BK w w' := by
  have b4 := b4_new w (.int .i64 W) (.int .i64 R) (.slice p ins.length pc) (.slice q m qc) 34
  have hk := bk_alloc (BK.refl w) (.cells #[.int .i64 W, .int .i64 R, .slice p ins.length pc, .slice q m qc] 34)
  have HI := Lib.hid (hi.keep hk)
  clear hi
  go_enter Tryz.func25, Tryz.ntmps25
  go_upto_region 2 with (fail)
  generalize w.alloc (.cells #[.int .i64 W, .int .i64 R, .slice p ins.length pc, .slice q m qc] 34) = w0 at b4 hk HI ⊢
  obtain ⟨c0, c1, c2, c3⟩ := b4
  have HK := Lib.hid hk
  clear hk
  go_wp2_with fail
  clear c0 c1 c2 c3
  go_loopw [3, 9] (fun a i wr => ∃ k : Nat, k ≤ ins.length ∧ i = .int .i64 k ∧ a = .int .i64 (costV (ins.take k)) ∧ BK w0 wr) (fun _ i _ => ins.length - (intOf i).toNat)
  case atStart => exact ⟨0, Nat.zero_le _, rfl, rfl, BK.refl _⟩
  case round =>
    obtain ⟨k, hkk, rfl, rfl, hkw⟩ := hrel
    have HK0 := Lib.hid hkw
    by_cases hlt : k < ins.length
    · have HS := Lib.hid (costV_snoc ins k hlt)
      obtain ⟨b, o, rfl, hc⟩ := (HI.out.keep hkw).get k hlt
      have hbd := costV_bd (ins.take k)
      have hbl : (ins.take k).length ≤ 1000 := by rw [List.length_take]; omega
      clear hkw
      generalize ins[k] = i at hc HS
      obtain ⟨d0, d1, d2, d3, d4, d5⟩ := hc
      have hp := priceV_bd i.op
      have R20 := Lib.hid (fun W => price20 i.op W)
      have ca0 : 0 ≤ costV (ins.take k) := by omega
      have ca1 : costV (ins.take k) ≤ 12000 := by omega
      clear hbd hbl
      generalize costV (ins.take k) = a at HS ca0 ca1
      generalize priceV i.op = z at HS hp R20
      have hz0 : 0 ≤ z := hp.1
      have hz1 : z ≤ 12 := hp.2
      clear hp
      have KA := Lib.hid (bk_alloc HK0.out (.cells #[.int .i64 i.op, .int .i64 i.dst, .int .i64 i.a, .int .i64 i.b, .int .i64 i.c, .int .u64 i.imm] 42))
      go_wp2_with (go_at_call 20; refine (R20.out _).mono ?_; rintro e w' ⟨rfl, rfl⟩)
      go_roundw
      case rel => exact ⟨k + 1, by omega, by go_num, by rw [HS.out], KA.out⟩
      case measure => simp [intOf]; omega
    · obtain rfl : k = ins.length := by omega
      go_wp2_with fail
      go_ret
      exact ⟨ret_int (by rw [List.take_length]), bk_tr HK.out HK0.out⟩
end Go.Proofs.YtneidfbgdgegjaaGreatDoor
