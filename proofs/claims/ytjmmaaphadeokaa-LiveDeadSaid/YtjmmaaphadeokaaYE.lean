/- Remove of the reference, a valid program. -/
import Derived.Test.YtjmmaaphadeokaaYC
namespace Go.Proofs.Ytjmmaaphadeokaa
open Go.RowKit Go.Shelf
set_option linter.unusedVariables false
set_option linter.unusedSimpArgs false
set_option maxRecDepth 100000 in
set_option maxHeartbeats 4000000 in
theorem remove20_ok (W R : Int) (p q : Option Addr) (pc qc : Nat) (ins : List I6) (out : List Int) (w : World) (hi : RI w p pc ins) (ho : RO w q qc out) (lo : out.length ≤ 20) (hv : Vd W R ins out) : Calls Try.prog 20 #[.agg #[.int .i64 W, .int .i64 R, .slice p ins.length pc, .slice q out.length qc]] w (RP w W R (removeL out ins) out) := by
  have li := hv.len
  have hz := W4.new (w.alloc (.cells #[.int .i64 W, .int .i64 R, .slice p ins.length pc, .slice q out.length qc] 25)) (.int .i64 0) (.int .i64 0) (.slice none 0 0) (.slice none 0 0)
  rw [sz1] at hz
  have hc4 := (W4.new w (.int .i64 W) (.int .i64 R) (.slice p ins.length pc) (.slice q out.length qc)).keep (bk_alloc (BK.refl _) (.cells #[.int .i64 0, .int .i64 0, .slice none 0 0, .slice none 0 0] 25))
  have k0 := bk_alloc (bk_alloc (BK.refl w) (.cells #[.int .i64 W, .int .i64 R, .slice p ins.length pc, .slice q out.length qc] 25)) (.cells #[.int .i64 0, .int .i64 0, .slice none 0 0, .slice none 0 0] 25)
  have C30 := Lib.hid (fun (wc : World) (hb : BK w wc) => (rchk28 W R p q pc qc ins out wc (hi.keep hb) (ho.keep hb) (by omega) (by omega)).mono (R' := fun e w' => e = .returned (.int .i64 0) ∧ BK wc w') fun e w' ⟨a, b⟩ => ⟨by rw [a, chk_zero.2 hv], b⟩)
  have HV := Lib.hid (fun k => hv.sub (curL_len out ins k) (curL_mem out ins k))
  have HO := Lib.hid ho
  have HI := Lib.hid hi
  clear hi ho hv
  go_enter Try.func20, Try.ntmps20
  go_upto_region 1 with (fail)
  generalize (w.alloc (.cells #[.int .i64 W, .int .i64 R, .slice p ins.length pc, .slice q out.length qc] 25)).alloc (.cells #[.int .i64 0, .int .i64 0, .slice none 0 0, .slice none 0 0] 25) = w0 at hc4 hz k0 ⊢
  have HZ := Lib.hid hz
  have H4 := Lib.hid hc4
  have K0 := Lib.hid k0
  obtain ⟨⟨c0, c1, c2, c3⟩, fc0, fc1, fc2, fc3⟩ := hc4.cells
  clear hz k0 hc4
  go_wp2_with fail
  refine (C30.out w0 K0.out).mono ?_
  rintro e w1 ⟨rfl, hb1⟩
  have K1 := Lib.hid (bk_tr K0.out hb1)
  have HR := Lib.hid (show RS2 w W R q out.length qc (curL out ins ins.length) w1 from ⟨K1.out, ⟨p, pc, by unfold curL; rw [List.take_length, List.drop_length]; simp [removeL]; exact HI.out.keep K1.out, by unfold curL; rw [List.take_length, List.drop_length]; simp [removeL]; exact H4.out.keep hb1⟩, HZ.out.keep hb1⟩)
  clear c0 c1 c2 c3 fc0 fc1 fc2 fc3
  obtain ⟨⟨c0, c1, c2, c3⟩, fc0, fc1, fc2, fc3⟩ := (H4.out.keep hb1).cells
  clear hb1
  have ei : IntKind.i64.wrap ((ins.length : Int) - 1) = (ins.length : Int) - 1 := IntWalk.i64_in _ (by omega)
  have EI := Lib.hid ei
  go_wp2_with fail
  clear ei c0 c1 c2 c3 fc0 fc1 fc2 fc3
  go_loopw [5] (fun x wr => ∃ k : Nat, k ≤ ins.length ∧ x = .int .i64 ((k : Int) - 1) ∧ RS2 w W R q out.length qc (curL out ins k) wr) (fun x _ => ((intOf x) + 1).toNat)
  case atStart => exact ⟨ins.length, Nat.le_refl _, by first | rfl | go_num | simp [EI.out], HR.out⟩
  case round =>
    obtain ⟨k, hk, rfl, hrs⟩ := hrel
    have HRS := Lib.hid hrs
    obtain ⟨p', pc', hpi, hbx⟩ := hrs.box
    cases k with
    | zero =>
      have hr := hrs.res
      have e0 : ((0 : Nat) : Int) - 1 = -1 := by omega
      rw [e0]
      have H0 := Lib.hid (show curL out ins 0 = removeL out ins from by simp [curL])
      rw [H0.out] at hpi hbx
      have HPI := Lib.hid hpi
      have HBX := Lib.hid hbx
      have KR := Lib.hid hrs.bk
      obtain ⟨⟨c0, c1, c2, c3⟩, fc0, fc1, fc2, fc3⟩ := hbx.cells
      obtain ⟨⟨z0, z1, z2, z3⟩, g0, g1, g2, g3⟩ := hr.cells
      have HRW := Lib.hid hr
      clear hpi hbx hrs hr
      have n1 : ¬ w.heap.size + 1 = w.heap.size := by omega
      have n2 : ¬ w.heap.size = w.heap.size + 1 := by omega
      go_wp2_with fail
      refine bodyPost_ret (v := .tuple #[.agg #[.int .i64 W, .int .i64 R, .slice p' (removeL out ins).length pc', .slice q out.length qc], .int .i64 0]) (by simp [results, Try.results20, go_sem, z0, z1, z2, z3]) rfl ⟨p', pc', q, qc, rfl, ?_, ?_, ?_⟩
      · exact ri_at HPI.out HRW.out (fun a ha => put4_cell wr (w.heap.size + 1) (.int .i64 W) (.int .i64 R) (.slice p' (removeL out ins).length pc') (.slice q out.length qc) a ha)
      · refine HO.out.keep ?_
        repeat (first | exact KR.out | refine bk_set ?_ _ _ (by show w.heap.size ≤ w.heap.size + 1; omega))
      · repeat (first | exact KR.out | refine bk_set ?_ _ _ (by show w.heap.size ≤ w.heap.size + 1; omega))
    | succ k =>
      have hlt : k < ins.length := by omega
      have hcl := curL_len out ins (k + 1)
      have e0 : ((k + 1 : Nat) : Int) - 1 = (k : Int) := by omega
      rw [e0]
      have hvk := HV.out (k + 1)
      have hcs := curL_succ out ins k hlt
      have hcd := curL_dead out ins k hlt
      have hcv := curL_live out ins k hlt
      have hta : (ins.take k).length = k := by simp; omega
      generalize curL out ins (k + 1) = L at *
      generalize ins[k] = i at *
      generalize ins.take k = a at *
      generalize removeL out (ins.drop (k + 1)) = t at *
      subst hcs
      have C22 := Lib.hid (dead_cut W R p' q pc' qc a i t k hta out wr hpi (HO.out.keep hrs.bk) hvk lo)
      have C42 := Lib.hid (fun (wc : World) (hb : BK wr wc) => without_cut W R p' q pc' qc out.length a i t k hta wc (hpi.keep hb) (by omega))
      have HBX := Lib.hid hbx
      have hi1 : (k : Int) < 300 := by omega
      obtain ⟨⟨c0, c1, c2, c3⟩, fc0, fc1, fc2, fc3⟩ := hbx.cells
      clear hpi hbx hrs hvk
      generalize hll : (a ++ i :: t).length = LN at *
      have HLL := Lib.hid hll
      clear hll
      generalize deadB i t out = D at *
      go_wp2_with fail
      refine C22.out.mono ?_
      rintro e w3 ⟨rfl, hb3⟩
      have J3 := Lib.hid hb3
      clear hb3 c0 c1 c2 c3 fc0 fc1 fc2 fc3
      cases D
      · have HCV := Lib.hid (hcv rfl)
        clear hcv hcd
        go_wp2_with fail
        go_roundw
        case rel => exact ⟨k, by omega, by go_num, by rw [HCV.out]; exact HRS.out.keep J3.out⟩
        case measure => first | (simp [intOf]; done) | (simp [intOf]; omega)
      · have HCD := Lib.hid (hcd rfl)
        clear hcv hcd
        obtain ⟨⟨c0, c1, c2, c3⟩, fc0, fc1, fc2, fc3⟩ := (HBX.out.keep J3.out).cells
        go_wp2_with fail
        refine (C42.out w3 J3.out).mono ?_
        rintro e w4 ⟨p4, pc4, rfl, hi4, hb4⟩
        have J4 := Lib.hid (bk_tr J3.out hb4)
        have HI4 := Lib.hid hi4
        clear hi4 c0 c1 c2 c3 fc0 fc1 fc2 fc3
        obtain ⟨⟨c0, c1, c2, c3⟩, fc0, fc1, fc2, fc3⟩ := (HBX.out.keep J4.out).cells
        clear hb4
        go_wp2_with fail
        go_roundw
        case rel => exact ⟨k, by omega, by go_num, by rw [HCD.out, show k + t.length = (a ++ t).length from by simp [hta]]; exact HRS.out.put J4.out HI4.out⟩
        case measure => first | (simp [intOf]; done) | (simp [intOf]; omega)
end Go.Proofs.Ytjmmaaphadeokaa
