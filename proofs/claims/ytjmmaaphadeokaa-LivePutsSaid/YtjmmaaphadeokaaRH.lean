/- Replace in the reference. -/
import Derived.Test.YtjmmaaphadeokaaRG
namespace Go.Proofs.Ytjmmaaphadeokaa
open Go.RowKit Go.Shelf
set_option linter.unusedVariables false
set_option linter.unusedSimpArgs false
theorem ri_one (w : World) (i : I6) : RI (w.alloc (.cells #[.int .i64 i.op, .int .i64 i.dst, .int .i64 i.a, .int .i64 i.b, .int .i64 i.c, .int .u64 i.imm] 54)) (some ⟨w.heap.size, 0, none⟩) 1 [i] :=
  ⟨fun h => (by cases h), Nat.le_refl _, fun k hk => ⟨_, _, rfl, by
    match k, hk with
    | 0, _ => have h := x6_new w i 54; simp only [A6, X6] at *; simp⟩⟩
set_option maxRecDepth 100000 in
set_option maxHeartbeats 4000000 in
theorem rep27_ok (W R : Int) (p q : Option Addr) (pc qc : Nat) (ins : List I6) (out : List Int) (p2 q2 : Option Addr) (pc2 qc2 : Nat) (ins2 : List I6) (out2 : List Int) (f n : Nat) (w : World) (hi : RI w p pc ins) (ho : RO w q qc out) (hi2 : RI w p2 pc2 ins2) (ho2 : RO w q2 qc2 out2) (li : ins.length ≤ 300) (lo : out.length ≤ 20) (li2 : ins2.length ≤ 300) (lo2 : out2.length ≤ 20) (hw0 : winE W R ins out f n = 0) (hc0 : chkE W R ins2 out2 = 0) (hx : (ins.length : Int) - n + ins2.length ≤ 256) :
    Calls Try.prog 27 #[.agg #[.int .i64 W, .int .i64 R, .slice p ins.length pc, .slice q out.length qc], .int .i64 (f : Int), .int .i64 (n : Int), .agg #[.int .i64 W, .int .i64 R, .slice p2 ins2.length pc2, .slice q2 out2.length qc2]] w (RP w W R (repL ins ins2 f n) out) := by
  obtain ⟨-, v1, v2, v3⟩ := win_zero hw0
  have hfn : f + n ≤ ins.length := by omega
  have hle := hi.le
  have hz := W4.new ((w.alloc (.cells #[.int .i64 W, .int .i64 R, .slice p ins.length pc, .slice q out.length qc] 25)).alloc (.cells #[.int .i64 W, .int .i64 R, .slice p2 ins2.length pc2, .slice q2 out2.length qc2] 25)) (.int .i64 0) (.int .i64 0) (.slice none 0 0) (.slice none 0 0)
  rw [sz1, sz1] at hz
  have b4 := (b4_new w (.int .i64 W) (.int .i64 R) (.slice p ins.length pc) (.slice q out.length qc) 25).keep (bk_alloc (bk_alloc (BK.refl _) (.cells #[.int .i64 W, .int .i64 R, .slice p2 ins2.length pc2, .slice q2 out2.length qc2] 25)) (.cells #[.int .i64 0, .int .i64 0, .slice none 0 0, .slice none 0 0] 25))
  have d4 := (b4_new (w.alloc (.cells #[.int .i64 W, .int .i64 R, .slice p ins.length pc, .slice q out.length qc] 25)) (.int .i64 W) (.int .i64 R) (.slice p2 ins2.length pc2) (.slice q2 out2.length qc2) 25).keep (bk_alloc (BK.refl _) (.cells #[.int .i64 0, .int .i64 0, .slice none 0 0, .slice none 0 0] 25))
  rw [sz1] at d4
  have k0 := bk_alloc (bk_alloc (bk_alloc (BK.refl w) (.cells #[.int .i64 W, .int .i64 R, .slice p ins.length pc, .slice q out.length qc] 25)) (.cells #[.int .i64 W, .int .i64 R, .slice p2 ins2.length pc2, .slice q2 out2.length qc2] 25)) (.cells #[.int .i64 0, .int .i64 0, .slice none 0 0, .slice none 0 0] 25)
  have C43 := Lib.hid (fun (wc : World) (hb : BK w wc) => win46 W R p q pc qc ins out wc (hi.keep hb) (ho.keep hb) (by omega) (by omega) f n (by omega) (by omega))
  have C30 := Lib.hid (fun (wc : World) (hb : BK w wc) => rchk28 W R p2 q2 pc2 qc2 ins2 out2 wc (hi2.keep hb) (ho2.keep hb) (by omega) (by omega))
  have hc4 := ((W4.new w (.int .i64 W) (.int .i64 R) (.slice p ins.length pc) (.slice q out.length qc)).keep (bk_alloc (BK.refl _) (.cells #[.int .i64 W, .int .i64 R, .slice p2 ins2.length pc2, .slice q2 out2.length qc2] 25))).keep (bk_alloc (BK.refl _) (.cells #[.int .i64 0, .int .i64 0, .slice none 0 0, .slice none 0 0] 25))
  have C43 := Lib.hid (fun (wc : World) (hb : BK w wc) => by have := C43.out wc hb; rw [hw0] at this; exact this)
  have C30 := Lib.hid (fun (wc : World) (hb : BK w wc) => by have := C30.out wc hb; rw [hc0] at this; exact this)
  have HI := Lib.hid hi
  have HI2 := Lib.hid hi2
  have HO := Lib.hid ho
  have HFIN := Lib.hid (show ins.take f ++ (ins2 ++ (ins.drop (f + n)).take (ins.length - (f + n))) = repL ins ins2 f n from by unfold repL; rw [List.take_of_length_le (l := ins.drop (f + n)) (by simp)])
  clear hi ho hi2 ho2 hw0 hc0
  go_enter Try.func27, Try.ntmps27
  go_upto_region 1 with (fail)
  generalize ((w.alloc (.cells #[.int .i64 W, .int .i64 R, .slice p ins.length pc, .slice q out.length qc] 25)).alloc (.cells #[.int .i64 W, .int .i64 R, .slice p2 ins2.length pc2, .slice q2 out2.length qc2] 25)).alloc (.cells #[.int .i64 0, .int .i64 0, .slice none 0 0, .slice none 0 0] 25) = w0 at b4 d4 hz k0 hc4 ⊢
  have HZ := Lib.hid hz
  have HB := Lib.hid b4
  have HD := Lib.hid d4
  have K0 := Lib.hid k0
  obtain ⟨c0, c1, c2, c3⟩ := b4
  have HC4 := Lib.hid hc4
  clear hz k0 d4 hc4
  go_wp2_with fail
  refine (C43.out w0 K0.out).mono ?_
  rintro e w1 ⟨rfl, hb1⟩
  have K1 := Lib.hid (bk_tr K0.out hb1)
  have J1 := Lib.hid hb1
  obtain ⟨d0, d1, d2, d3⟩ := HD.out.keep hb1
  clear hb1 c0 c1 c2 c3
  go_wp2_with fail
  refine (C30.out w1 K1.out).mono ?_
  rintro e w2 ⟨rfl, hb2⟩
  have K2 := Lib.hid (bk_tr K1.out hb2)
  have J2 := Lib.hid (bk_tr J1.out hb2)
  clear hb2 d0 d1 d2 d3
  obtain ⟨c0, c1, c2, c3⟩ := HB.out.keep J2.out
  obtain ⟨d0, d1, d2, d3⟩ := HD.out.keep J2.out
  go_upto_region 11 with (fail)
  have ei : IntKind.i64.wrap ((f : Int) + (n : Int)) = (f : Int) + (n : Int) := IntWalk.i64_in _ (by omega)
  have EI := Lib.hid ei
  clear ei
  have HE0 := Lib.hid (own_empty w2 w2.heap.size (Nat.le_refl _) 54 6)
  have KE := Lib.hid (bk_alloc (BK.refl w2) (.cells #[] 54))
  clear c0 c1 c2 c3 d0 d1 d2 d3
  go_wp2_with fail
  generalize w2.alloc (.cells #[] 54) = w2' at HE0 KE ⊢
  go_loopw [11, 12] (fun v x wr => ∃ k : Nat, k ≤ f ∧ x = .int .i64 (k : Int) ∧ wr.ownsRow w2.heap.size 54 6 v (ins.take k).length (flat6 (ins.take k)) ∧ BK w2 wr) (fun _ x _ => f - (intOf x).toNat)
  case atStart => exact ⟨0, Nat.zero_le _, rfl, HE0.out, KE.out⟩
  case round =>
    obtain ⟨k, hk, rfl, hown, hkw⟩ := hrel
    have HK := Lib.hid hkw
    have HO9 := Lib.hid hown
    obtain ⟨c0, c1, c2, c3⟩ := (HC4.out.keep (bk_tr J2.out hkw)).b4
    obtain ⟨d0, d1, d2, d3⟩ := HD.out.keep (bk_tr J2.out hkw)
    by_cases hlt : k < f
    · have hlt' : k < ins.length := by omega
      obtain ⟨b, o, hpe, hc⟩ := (HI.out.keep (bk_tr K2.out hkw)).get k hlt'
      subst hpe
      have HL := Lib.hid (show ins.take (k + 1) = ins.take k ++ [ins[k]] from by rw [List.take_succ_eq_append_getElem hlt'])
      have hbs := hkw.bl.size
      have hln : (ins.take k).length ≤ 1000 := by simp; omega
      have hi1 : (k : Int) < f := by omega
      clear hkw
      generalize hgi : ins[k] = i at hc HL
      have HGI := Lib.hid hgi
      clear hgi
      obtain ⟨x0, x1, x2, x3, x4, x5⟩ := hc
      go_wp2_with (at_builtin; refine wpList_app6 rfl _ _ rfl w2.heap.size _ _ (ins.take k) rfl (hown.alloc _) (some ⟨wr.heap.size, 0, none⟩) 1 [i] rfl (ri_one wr i) (by simp; omega) (by simp; omega) ?_; intro v' w3 ho3 hb3 hg3; have HO3 := Lib.hid (show w3.ownsRow w2.heap.size 54 6 v' (ins.take (k + 1)).length (flat6 (ins.take (k + 1))) from own_cast ho3 (by rw [HL.out]; simp; try omega) (by rw [HL.out])); have K3 := Lib.hid (show BK w2 w3 from (HK.out.bl.alloc hbs _).trans hb3); clear ho3 hb3 hg3)
      go_roundw
      case rel => exact ⟨k + 1, by omega, by go_num, HO3.out, K3.out⟩
      case measure => simp [intOf]; omega
    · obtain rfl : f = k := by omega
      have HO1 := HO9
      have K1L := HK
      clear hown hkw
      go_wp2_with fail
      clear c0 c1 c2 c3 d0 d1 d2 d3
      go_loopw [11, 13] (fun v x wr => ∃ k : Nat, k ≤ ins2.length ∧ x = .int .i64 (k : Int) ∧ wr.ownsRow w2.heap.size 54 6 v (ins.take f ++ ins2.take k).length (flat6 (ins.take f ++ ins2.take k)) ∧ BK w2 wr) (fun _ x _ => ins2.length - (intOf x).toNat)
      case atStart => exact ⟨0, Nat.zero_le _, rfl, by rw [List.take_zero, List.append_nil]; exact HO1.out, K1L.out⟩
      case round =>
        obtain ⟨k, hk, rfl, hown, hkw⟩ := hrel
        have HK := Lib.hid hkw
        have HO9 := Lib.hid hown
        obtain ⟨c0, c1, c2, c3⟩ := (HC4.out.keep (bk_tr J2.out hkw)).b4
        obtain ⟨d0, d1, d2, d3⟩ := HD.out.keep (bk_tr J2.out hkw)
        by_cases hlt : k < ins2.length
        · obtain ⟨b, o, hpe, hc⟩ := (HI2.out.keep (bk_tr K2.out hkw)).get k hlt
          subst hpe
          have HL := Lib.hid (show ins.take f ++ ins2.take (k + 1) = ins.take f ++ ins2.take k ++ [ins2[k]] from by rw [List.take_succ_eq_append_getElem hlt]; simp)
          have hbs := hkw.bl.size
          have hln : (ins.take f ++ ins2.take k).length ≤ 1000 := by simp; omega
          have hi1 : (k : Int) < ins2.length := by omega
          clear hkw
          generalize hgi : ins2[k] = i at hc HL
          have HGI := Lib.hid hgi
          clear hgi
          obtain ⟨x0, x1, x2, x3, x4, x5⟩ := hc
          go_wp2_with (at_builtin; refine wpList_app6 rfl _ _ rfl w2.heap.size _ _ (ins.take f ++ ins2.take k) rfl (hown.alloc _) (some ⟨wr.heap.size, 0, none⟩) 1 [i] rfl (ri_one wr i) (by simp; omega) (by simp; omega) ?_; intro v' w3 ho3 hb3 hg3; have HO3 := Lib.hid (show w3.ownsRow w2.heap.size 54 6 v' (ins.take f ++ ins2.take (k + 1)).length (flat6 (ins.take f ++ ins2.take (k + 1))) from own_cast ho3 (by rw [HL.out]; simp; try omega) (by rw [HL.out])); have K3 := Lib.hid (show BK w2 w3 from (HK.out.bl.alloc hbs _).trans hb3); clear ho3 hb3 hg3)
          go_roundw
          case rel => exact ⟨k + 1, by omega, by go_num, HO3.out, K3.out⟩
          case measure => simp [intOf]; omega
        · obtain rfl : k = ins2.length := by omega
          rw [List.take_length] at HO9
          have HO2 := HO9
          have K2L := HK
          clear hown hkw
          go_wp2_with fail
          clear c0 c1 c2 c3 d0 d1 d2 d3
          go_loopw [11, 14] (fun v x wr => ∃ k : Nat, (f + n ≤ k ∧ k ≤ ins.length) ∧ x = .int .i64 (k : Int) ∧ wr.ownsRow w2.heap.size 54 6 v (ins.take f ++ (ins2 ++ (ins.drop (f + n)).take (k - (f + n)))).length (flat6 (ins.take f ++ (ins2 ++ (ins.drop (f + n)).take (k - (f + n))))) ∧ BK w2 wr) (fun _ x _ => ins.length - (intOf x).toNat)
          case atStart => exact ⟨f + n, ⟨Nat.le_refl _, hfn⟩, by first | rfl | go_num | (simp), by rw [Nat.sub_self, List.take_zero, List.append_nil]; exact HO2.out, K2L.out⟩
          case round =>
            obtain ⟨k, hk, rfl, hown, hkw⟩ := hrel
            have HK := Lib.hid hkw
            have HO9 := Lib.hid hown
            obtain ⟨c0, c1, c2, c3⟩ := (HC4.out.keep (bk_tr J2.out hkw)).b4
            obtain ⟨d0, d1, d2, d3⟩ := HD.out.keep (bk_tr J2.out hkw)
            by_cases hlt : k < ins.length
            · obtain ⟨b, o, hpe, hc⟩ := (HI.out.keep (bk_tr K2.out hkw)).get k hlt
              subst hpe
              have HL := Lib.hid (show ins.take f ++ (ins2 ++ (ins.drop (f + n)).take ((k + 1) - (f + n))) = ins.take f ++ (ins2 ++ (ins.drop (f + n)).take (k - (f + n))) ++ [ins[k]] from by
                have hkd : k - (f + n) < (ins.drop (f + n)).length := by simp; omega
                rw [show k + 1 - (f + n) = (k - (f + n)) + 1 by omega, List.take_succ_eq_append_getElem hkd]
                have e : (ins.drop (f + n))[k - (f + n)] = ins[k] := by rw [List.getElem_drop]; congr 1; omega
                rw [e]; simp)
              have hbs := hkw.bl.size
              have hln : (ins.take f ++ (ins2 ++ (ins.drop (f + n)).take (k - (f + n)))).length ≤ 1000 := by simp; omega
              have hi1 : (k : Int) < ins.length := by omega
              clear hkw
              generalize hgi : ins[k] = i at hc HL
              have HGI := Lib.hid hgi
              clear hgi
              obtain ⟨x0, x1, x2, x3, x4, x5⟩ := hc
              go_wp2_with (at_builtin; refine wpList_app6 rfl _ _ rfl w2.heap.size _ _ (ins.take f ++ (ins2 ++ (ins.drop (f + n)).take (k - (f + n)))) rfl (hown.alloc _) (some ⟨wr.heap.size, 0, none⟩) 1 [i] rfl (ri_one wr i) (by simp; omega) (by simp; omega) ?_; intro v' w3 ho3 hb3 hg3; have HO3 := Lib.hid (show w3.ownsRow w2.heap.size 54 6 v' (ins.take f ++ (ins2 ++ (ins.drop (f + n)).take ((k + 1) - (f + n)))).length (flat6 (ins.take f ++ (ins2 ++ (ins.drop (f + n)).take ((k + 1) - (f + n))))) from own_cast ho3 (by rw [HL.out]; simp; try omega) (by rw [HL.out])); have K3 := Lib.hid (show BK w2 w3 from (HK.out.bl.alloc hbs _).trans hb3); clear ho3 hb3 hg3)
              go_roundw
              case rel => exact ⟨k + 1, by omega, by go_num, HO3.out, K3.out⟩
              case measure => simp [intOf]; omega
            · obtain rfl : k = ins.length := by omega
              rw [HFIN.out] at HO9
              clear hown hkw
              obtain ⟨p', pc', rfl⟩ := own_shape HO9.out
              clear c0 c1 c2 c3
              obtain ⟨⟨c0, c1, c2, c3⟩, fc0, fc1, fc2, fc3⟩ := (HC4.out.keep (bk_tr J2.out HK.out)).cells
              obtain ⟨⟨z0, z1, z2, z3⟩, g0, g1, g2, g3⟩ := (HZ.out.keep (bk_tr J2.out HK.out)).cells
              have n1 : ¬ w.heap.size + 1 + 1 = w.heap.size := by omega
              have n2 : ¬ w.heap.size = w.heap.size + 1 + 1 := by omega
              go_wp2_with fail
              clear c0 c1 c2 c3 d0 d1 d2 d3
              refine bodyPost_ret (v := .tuple #[.agg #[.int .i64 W, .int .i64 R, .slice p' (repL ins ins2 f n).length pc', .slice q out.length qc], .int .i64 0]) (by simp [results, Try.results27, go_sem, z0, z1, z2, z3]) rfl ⟨p', pc', q, qc, rfl, ?_, ?_, ?_⟩
              · have hn2 := (HZ.out.keep J2.out).lt
                refine RI.own (B := w2.heap.size) (e := 54) (n := (repL ins ins2 f n).length) ?_
                repeat (first | exact HO9.out | refine own_set ?_ _ _ (by show w.heap.size + 1 + 1 < w2.heap.size; omega) | refine own_set ?_ _ _ (by show w.heap.size < w2.heap.size; omega))
              · refine HO.out.keep ?_
                repeat (first | exact bk_tr K2.out HK.out | refine bk_set ?_ _ _ (by show w.heap.size ≤ w.heap.size + 1 + 1; omega) | refine bk_set ?_ _ _ (by show w.heap.size ≤ w.heap.size; omega))
              · repeat (first | exact bk_tr K2.out HK.out | refine bk_set ?_ _ _ (by show w.heap.size ≤ w.heap.size + 1 + 1; omega) | refine bk_set ?_ _ _ (by show w.heap.size ≤ w.heap.size; omega))
end Go.Proofs.Ytjmmaaphadeokaa
