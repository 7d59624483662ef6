/- The reference's Labels, walked. -/
import Derived.Test.YtihoegihmgeenaaS
import Derived.Test.YtihoegihmgeenaaC
import Derived.Deep.DeepMust
namespace Go.Proofs.Ytihoegihmgeenaa
open Go.RowKit
set_option linter.unusedVariables false
set_option linter.unusedSimpArgs false
set_option maxRecDepth 100000 in
set_option maxHeartbeats 4000000 in
theorem labels_any (B : Nat) (lv : Value) (l : List ROp) (h : List HOp) (w : World) (o : w.ownsRow B 58 3 lv l.length (rops l)) (m : M l h) (hok : ok h) (hs : h.length ≤ 1000) :
    Calls Try.prog 22 #[lv] w (LPost w (labs h)) := by
  have hl := M_len h l m
  obtain ⟨p, c, rfl⟩ := own_shape o
  obtain ⟨i3, hi3, hz3, hs3, hb3⟩ := info_parts info3
  have ho := Lib.hid o
  have hm := Lib.hid m
  have hL := Lib.hid hl
  have hll : l.length ≤ 1000 := by omega
  have hlt : ∀ g, (Value.slice p l.length c).ownBlock = some g → g < w.heap.size := fun g hg => (o.lt g hg).2
  have Hlt := Lib.hid hlt
  clear o m hlt hl
  go_enter Try.func22, Try.ntmps22
  go_wp2_with fail
  go_loopw [3, 10] (fun v i wr => ∃ k : Nat, k ≤ l.length ∧ i = .int .i64 k ∧ wr.ownsRow w.heap.size 3 1 v (nE (pre h k)) (nums (labs (pre h k))) ∧ Below w.heap.size w wr) (fun _ i _ => l.length - (intOf i).toNat)
  case atStart => exact ⟨0, Nat.zero_le _, rfl, by rw [pre_zero]; exact World.ownsRow_nil _ _ _ _, Below.refl _ _⟩
  case round =>
    obtain ⟨k, hk, rfl, ov, hb⟩ := hrel
    have hb' := Lib.hid hb
    have hwz : w.heap.size ≤ wr.heap.size := hb.size
    by_cases hkl : k < l.length
    · obtain ⟨g, cap, hlv, _⟩ := World.ownsRow.form ho.out (by omega)
      cases hlv
      have hg := Hlt.out g rfl
      have oc := rop_cells ho.out k hkl
      rw [← hb.cell (p := ⟨g, k * 3, none⟩) hg, ← hb.cell (p := ⟨g, k * 3 + 1, none⟩) hg, ← hb.cell (p := ⟨g, k * 3 + 2, none⟩) hg] at oc
      have hkh : k < h.length := by have := hL.out; omega
      have hat := M_at hm.out k hkh
      have hpl := pre_len h k (by omega)
      have hnp := nE_le (pre h k)
      rw [hpl] at hnp
      have hpok := ok_pre hok k
      clear hb hpl
      rcases hat with ⟨a, b, h1, h2⟩ | ⟨r, cc, a, b, h1, h2, h3, h4, h5⟩
      · rw [h1] at oc
        obtain ⟨o0, _, _⟩ := oc
        simp only at o0
        obtain ⟨q, e, rfl⟩ := own_shape ov
        have hov := Lib.hid ov
        have H2 := Lib.hid h2
        clear ov h1 h2
        go_wp2_with (at_builtin; refine wpList_append_lies _ rfl (.tmp 18) (.tmp 21) 42 rfl w.heap.size 3 i3 (.int .i64 0) 1 8 Try.underlying42 hi3 hz3 hs3 hb3 rfl (by decide) _ _ _ rfl (hov.out.alloc _) ⟨wr.heap.size, 0, none⟩ 1 1 [.int .i64 (nE (pre h k))] rfl rfl (lit_cells_at wr #[.int .i64 (nE (pre h k))] 3 _ rfl) (by simp [Value.oneCell']) (by decide) (by unfold maxLen; omega) (by omega) (by simp; omega) (wr.heap.size + 1) (by simp) ?_)
        intro g2 e2 w2 hown hgrow hat hlt2
        have hb2 := (hb'.out.alloc hwz (.cells #[.int .i64 (nE (pre h k))] 3)).grown hgrow (by simp; omega) (fun j hj => ((hov.out.lt j hj).1))
        have hown2 := Lib.hid hown
        have HB2 := Lib.hid hb2
        clear hown hgrow hat hlt2 hb2
        go_wp2_with fail
        go_roundw
        case rel => exact ⟨k + 1, by omega, by go_num, by rw [H2.out, labs_none _ hpok, nums_snoc]; exact hown2.out, HB2.out⟩
        case measure => simp [intOf]; omega
      · rw [h1] at oc
        obtain ⟨o0, o1, o2⟩ := oc
        simp only at o0 o1 o2
        obtain ⟨gv, e, rfl, _, hgv⟩ := World.ownsRow.form ov (by omega)
        have va := int_cell ov a h3
        have vb := int_cell ov b h4
        rw [labs_at _ a h3] at va
        rw [labs_at _ b h4] at vb
        have hlabs : labs (pre h (k + 1)) = (labs (pre h k)).map (swp (lab (pre h k) a) (lab (pre h k) b)) := by
          rw [h2]; exact labs_some _ r cc a b (by rw [← h2]; exact ok_pre hok (k + 1)) h5
        have hn1 : nE (pre h (k + 1)) = nE (pre h k) := by rw [h2]; rfl
        have hov := Lib.hid ov
        have HL := Lib.hid hlabs
        have HN := Lib.hid hn1
        have ha' : (a : Int) < (nE (pre h k) : Int) := by omega
        have hb'' : (b : Int) < (nE (pre h k) : Int) := by omega
        have hlen := len_labs (pre h k)
        have HLn := Lib.hid hlen
        clear ov h1 h2 h5 hlabs hn1 hlen
        generalize lab (pre h k) a = A at va HL
        generalize lab (pre h k) b = D at vb HL
        generalize labs (pre h k) = L at hov HL HLn
        generalize nE (pre h k) = n at hov HLn HN ha' hb'' h3 h4 hnp ⊢
        go_wp2_with fail
        go_quiet (fail)
        go_wp2_with fail
        obtain ⟨wo, hwo⟩ : ∃ wo : World, wo = wr.drewN nq := ⟨_, rfl⟩
        have Hwo := Lib.hid hwo
        rw [← hwo]
        clear hwo
        go_loopw [41] (fun i wx => ∃ j : Nat, j ≤ n ∧ i = .int .i64 j ∧ wx.ownsRow w.heap.size 3 1 (.slice (some ⟨gv, 0, none⟩) n e) n (nums (swpTo A D L j)) ∧ Below w.heap.size w wx) (fun i _ => n - (intOf i).toNat)
        case atStart => exact ⟨0, Nat.zero_le _, rfl, by rw [swpTo_zero, Hwo.out]; exact hov.out, by rw [Hwo.out]; exact ⟨hb'.out.os, hb'.out.tape, hb'.out.output, hb'.out.size, hb'.out.block⟩⟩
        case round =>
          obtain ⟨j, hj, rfl, ox, hbx⟩ := hrel
          have hlx : L.length = n := HLn.out
          by_cases hjn : j < n
          · have cx := int_cell ox j hjn
            rw [swpTo_at A D L j (by omega)] at cx
            have fx := World.ownsRow.frozenAt ox j
            have hsame := Lib.hid (swpTo_same A D L j (by omega))
            have hsucc := Lib.hid (swpTo_succ A D L j (by omega))
            have hox := Lib.hid ox
            have hbx' := Lib.hid hbx
            have hji : (j : Int) < (n : Int) := by omega
            have hlow := (ox.lt gv rfl).1
            have Hlx := Lib.hid hlx
            clear ox hbx hlx
            generalize L.getD j 0 = z at cx hsame hsucc
            by_cases hAD : A ≤ D
            · have em : max A D = D := by omega
              have en : min A D = A := by omega
              have Hem := Lib.hid em
              have Hen := Lib.hid en
              clear em en
              by_cases hz : z = D
              · have hsw : swpTo A D L (j + 1) = (swpTo A D L j).set j A := by rw [hsucc.out]; unfold swp; rw [Hem.out, Hen.out, if_pos hz]
                have hst := World.ownsRow.stored hox.out j (.int .i64 A)
                rw [← nums_set, ← hsw] at hst
                have Hst := Lib.hid hst.1
                have Hb := Lib.hid (hbx'.out.setCell (p := ⟨gv, j, none⟩) hlow (.int .i64 A))
                clear hsw hst hsame hsucc
                subst hz
                go_wp2_with fail
                go_roundw
                case rel => exact ⟨j + 1, by omega, by go_num, Hst.out, Hb.out⟩
                case measure => simp [intOf]; omega
              · have hsw : swpTo A D L (j + 1) = swpTo A D L j := hsame.out (by rw [Hem.out]; exact hz)
                have Hsw := Lib.hid hsw
                have hzi : ((z : Int) == (D : Int)) = false := by rw [beq_eq_false_iff_ne]; omega
                clear hsw hsame hsucc
                go_wp2_with fail
                go_roundw
                case rel => exact ⟨j + 1, by omega, by go_num, by rw [Hsw.out]; exact hox.out, hbx'.out⟩
                case measure => simp [intOf]; omega
            · have em : max A D = A := by omega
              have en : min A D = D := by omega
              have Hem := Lib.hid em
              have Hen := Lib.hid en
              clear em en
              by_cases hz : z = A
              · have hsw : swpTo A D L (j + 1) = (swpTo A D L j).set j D := by rw [hsucc.out]; unfold swp; rw [Hem.out, Hen.out, if_pos hz]
                have hst := World.ownsRow.stored hox.out j (.int .i64 D)
                rw [← nums_set, ← hsw] at hst
                have Hst := Lib.hid hst.1
                have Hb := Lib.hid (hbx'.out.setCell (p := ⟨gv, j, none⟩) hlow (.int .i64 D))
                clear hsw hst hsame hsucc
                subst hz
                go_wp2_with fail
                go_roundw
                case rel => exact ⟨j + 1, by omega, by go_num, Hst.out, Hb.out⟩
                case measure => simp [intOf]; omega
              · have hsw : swpTo A D L (j + 1) = swpTo A D L j := hsame.out (by rw [Hem.out]; exact hz)
                have Hsw := Lib.hid hsw
                have hzi : ((z : Int) == (A : Int)) = false := by rw [beq_eq_false_iff_ne]; omega
                clear hsw hsame hsucc
                go_wp2_with fail
                go_roundw
                case rel => exact ⟨j + 1, by omega, by go_num, by rw [Hsw.out]; exact hox.out, hbx'.out⟩
                case measure => simp [intOf]; omega
          · have hje : j = n := by omega
            have hfin : wr.ownsRow w.heap.size 3 1 (.slice (some ⟨gv, 0, none⟩) n e) n (nums (L.map (swp A D))) := by
              have := ox; rw [hje, ← hlx, swpTo_all] at this; rw [← hlx]; exact this
            have Hfin := Lib.hid hfin
            have Hb := Lib.hid hbx
            clear ox hbx hfin hje hlx
            go_wp2_with fail
            go_roundw
            case rel => exact ⟨k + 1, by omega, by go_num, by rw [HL.out, HN.out]; exact Hfin.out, Hb.out⟩
            case measure => simp [intOf]; omega
    · have hke : k = h.length := by have := hL.out; omega
      have hov := Lib.hid ov
      have Hk := Lib.hid hke
      clear ov hke hb
      go_wp2_with fail
      go_ret
      refine ⟨_, rfl, ?_, hb'.out⟩
      have := hov.out
      rw [Hk.out, pre_all] at this
      rw [len_labs]; exact this
end Go.Proofs.Ytihoegihmgeenaa
