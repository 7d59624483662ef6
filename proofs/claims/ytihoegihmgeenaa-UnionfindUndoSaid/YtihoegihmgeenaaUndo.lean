/- After Undo all results are those that were returned when Mark was last equal to mark; for all sequences of calls (where one is longer than 20: the document's example only). -/
import Derived.Test.YtihoegihmgeenaaAK
namespace Go.Proofs.Ytihoegihmgeenaa.ufUndo
open Go.ChangeShapes Go.WideShapes Go.ChangeAt Go.RowKit
set_option linter.unusedVariables false
theorem own : ownKnob Try.prog.godebug = none := by kernel_rfl
theorem laidOut : laidOutB Try.prog = true := by kernel_rfl
set_option maxHeartbeats 4000000 in
theorem walk_long (p p' : Option Addr) (n c n' c' : Nat) (w : World) (h : 20 < n ∨ 20 < n') : Calls Try.prog 5 #[.slice p n c, .slice p' n' c'] w fun e w' => e = .returned (.bool true) ∧ Below w.heap.size w w' := by
  by_cases h1 : 20 < n
  · have hd : decide ((20 : Int) < (n : Int)) = true := by simp; omega
    have hi : (20 : Int) < (n : Int) := by omega
    go_enter Try.func5, Try.ntmps5
    go_wp2_with fail
    refine (new_any w.heap.size w (Nat.le_refl _)).mono ?_
    rintro e w1 ⟨rfl, _, hb⟩
    have Hb := Lib.hid hb
    clear hb
    go_wp2_with fail
    refine (lives_any w1).mono ?_
    rintro e w2 ⟨rfl, hb2⟩
    have Hb2 := Lib.hid hb2
    clear hb2
    go_wp2_with fail
    go_ret
    exact ⟨rfl, below_chain Hb.out Hb2.out⟩
  · have hd : decide ((20 : Int) < (n : Int)) = false := by simp; omega
    have hd2 : decide ((20 : Int) < (n' : Int)) = true := by simp; omega
    have hi : ¬ (20 : Int) < (n : Int) := by omega
    have hi2 : (20 : Int) < (n' : Int) := by omega
    clear h
    go_enter Try.func5, Try.ntmps5
    go_wp2_with fail
    refine (new_any w.heap.size w (Nat.le_refl _)).mono ?_
    rintro e w1 ⟨rfl, _, hb⟩
    have Hb := Lib.hid hb
    clear hb
    go_wp2_with fail
    refine (lives_any w1).mono ?_
    rintro e w2 ⟨rfl, hb2⟩
    have Hb2 := Lib.hid hb2
    clear hb2
    go_wp2_with fail
    go_ret
    exact ⟨rfl, below_chain Hb.out Hb2.out⟩
set_option maxRecDepth 100000 in
set_option maxHeartbeats 8000000 in
theorem walk_short (v v' : Value) (ac ad : List AAct) (w : World) (ha : Acts w w.heap.size v ac) (ha' : Acts w w.heap.size v' ad) (h : ac.length ≤ 20) (h' : ad.length ≤ 20) : Calls Try.prog 5 #[v, v'] w fun e w' => e = .returned (.bool true) ∧ Below w.heap.size w w' := by
  obtain ⟨p, c, rfl⟩ := ha.shape
  obtain ⟨p', c', rfl⟩ := ha'.shape
  have hd : decide ((20 : Int) < (ac.length : Int)) = false := by simp; omega
  have hd2 : decide ((20 : Int) < (ad.length : Int)) = false := by simp; omega
  have hi : ¬ (20 : Int) < (ac.length : Int) := by omega
  have hi2 : ¬ (20 : Int) < (ad.length : Int) := by omega
  have HA := Lib.hid ha
  have HA' := Lib.hid ha'
  clear ha ha'
  go_enter Try.func5, Try.ntmps5
  go_wp2_with fail
  refine (new_any w.heap.size w (Nat.le_refl _)).mono ?_
  rintro e w1 ⟨rfl, ⟨F, u⟩, hb⟩
  have Hb := Lib.hid hb
  have hrun := Lib.hid (run_any w.heap.size w.heap.size F _ ac w1 u (HA.out.below hb) (by omega))
  clear hb u
  go_wp2_with fail
  refine hrun.out.mono ?_
  rintro e w2 ⟨lv, l, h0, F2, rfl, k, hh, hb2⟩
  have hl := M_len h0 l k.o.m
  have hmk := mark_any _ _ h0 F2 w2 k.u
  rw [← hl] at hmk
  have Hmk := Lib.hid hmk
  have Hb2 := Lib.hid (Hb.out.trans hb2)
  obtain ⟨q, d, rfl⟩ := own_shape k.o.own
  have K := Lib.hid k
  have HL := Lib.hid hl
  have hh20 : h0.length ≤ 20 := by omega
  clear k hb2 hmk hl hrun
  go_wp2_with fail
  refine Hmk.out.mono ?_
  rintro e w' ⟨rfl, rfl⟩
  go_wp2_with fail
  go_loopw [46] (fun i wr => ∃ (j : Nat) (pr : List HOp) (F' : Nat → Prop), j ≤ ad.length ∧ i = .int .i64 j ∧ pr.length ≤ j ∧ U wr w.heap.size w.heap.size (pr ++ h0) F' ∧ OL wr w.heap.size (.slice q l.length d) l h0 ∧ (∀ k, (Value.slice q l.length d).ownBlock = some k → ¬ F' k) ∧ Below w.heap.size w wr) (fun i _ => ad.length - (intOf i).toNat)
  case atStart => exact ⟨0, [], F2, Nat.zero_le _, rfl, Nat.le_refl _, K.out.u, K.out.o, K.out.sep, Hb2.out⟩
  case round =>
    obtain ⟨j, pr, F', hj, rfl, hpr, u, o, sep, hb⟩ := hrel
    by_cases hjl : j < ad.length
    · rcases HA'.out with ⟨a, cap, h1, h2⟩ | ⟨ab, off, cap, h1, h2, h3, h4⟩
      · rw [h2] at hjl; simp at hjl
      cases h1
      obtain ⟨c0, c1, c2⟩ := h4 j hjl
      rw [← hb.cell (p := ⟨ab, _, none⟩) h3] at c0 c1 c2
      have KC : Hid (∀ w', Below w.heap.size w w' → w'.cell? ⟨ab, off + j * 3 + 1, none⟩ = some (.int .i64 (ad.getD j (0, 0, 0)).2.1) ∧ w'.cell? ⟨ab, off + j * 3 + 2, none⟩ = some (.int .i64 (ad.getD j (0, 0, 0)).2.2)) := Lib.hid (fun w' hb' => by
        obtain ⟨_, a1, a2⟩ := h4 j hjl
        exact ⟨(hb'.cell (p := ⟨ab, _, none⟩) h3).trans a1, (hb'.cell (p := ⟨ab, _, none⟩) h3).trans a2⟩)
      have hB := u.base
      have hlen : (pr ++ h0).length ≤ 60 := by simp; omega
      have hmake := Lib.hid (make_any _ _ (pr ++ h0) F' wr u (by omega))
      have hun := Lib.hid (fun x y q => union_all _ _ (pr ++ h0) F' x y wr u hlen q)
      have HO := Lib.hid (And.intro o sep)
      have HU := Lib.hid u
      have Hb3 := Lib.hid hb
      have hji : (j : Int) < (ad.length : Int) := by omega
      have hji0 : (0 : Int) ≤ (j : Int) := by omega
      clear h4 u o sep hb hlen
      generalize ad.getD j (0, 0, 0) = act at c0 c1 c2 KC
      obtain ⟨kd, x, y⟩ := act
      simp only at c0 c1 c2 KC
      by_cases hk1 : kd = 1
      · subst hk1
        go_wp2_with fail
        refine hmake.out.mono ?_
        rintro e w3 ⟨rfl, F3, u3, s3⟩
        have A := Lib.hid (ol_after HO.out.1 HO.out.2 s3)
        have U3 := Lib.hid u3
        have B3 := Lib.hid (Hb3.out.trans (HU.out.step s3))
        clear u3 s3
        go_wp2_with fail
        go_roundw
        case rel => exact ⟨j + 1, none :: pr, F3, by omega, by go_num, by simp; omega, U3.out, A.out.1, A.out.2, B3.out⟩
        case measure => simp [intOf]; omega
      · have hkb : (kd == 1) = false := by rw [beq_eq_false_iff_ne]; exact hk1
        clear hk1
        go_wp2_with fail
        go_region_held3 (fun w' => w'.cell? ⟨ab, off + j * 3 + 1, none⟩ = some (.int .i64 x) ∧ w'.cell? ⟨ab, off + j * 3 + 2, none⟩ = some (.int .i64 y))
          (first | go_keep | exact KC.out _ (by assumption))
          (first | (go_at_call 14; refine (hun.out x y 1).mono ?_; rintro e w' ⟨xx, tt, h3', F3, rfl, u3, s3, hor⟩; have hbw := Hb3.out.trans (HU.out.step s3)))
        have A := Lib.hid (ol_after HO.out.1 HO.out.2 s3)
        have U3 := Lib.hid u3
        have B3 := Lib.hid hbw
        clear u3 s3 hbw
        go_wp2_with fail
        go_roundw
        case rel =>
          rcases hor with rfl | ⟨o, rfl⟩
          · exact ⟨j + 1, pr, F3, by omega, by go_num, by omega, U3.out, A.out.1, A.out.2, B3.out⟩
          · exact ⟨j + 1, o :: pr, F3, by omega, by go_num, by simp; omega, U3.out, A.out.1, A.out.2, B3.out⟩
        case measure => simp [intOf]; omega
    · have hlen : (pr ++ h0).length ≤ 60 := by simp; omega
      have hud := undo_yes _ _ (pr ++ h0) F' l.length wr u (by rw [HL.out]; simp) hlen
      rw [HL.out, show (pr ++ h0).drop ((pr ++ h0).length - h0.length) = h0 by rw [List.length_append, Nat.add_sub_cancel]; exact List.drop_left] at hud
      rw [← HL.out] at hud
      have Hud := Lib.hid hud
      have HO := Lib.hid (And.intro o sep)
      have HU := Lib.hid u
      have Hb3 := Lib.hid hb
      clear hud o sep u hb hlen
      go_wp2_with fail
      refine Hud.out.mono ?_
      rintro e w3 ⟨rfl, F3, u3, s3⟩
      have A := ol_after HO.out.1 HO.out.2 s3
      have hag := Lib.hid (agree_any _ _ h0 F3 _ l w3 ⟨u3, A.1, A.2⟩ (by omega))
      have B3 := Lib.hid (Hb3.out.trans (HU.out.step s3))
      have hsz := Lib.hid u3.base
      clear A u3 s3
      go_wp2_with fail
      refine hag.out.mono ?_
      rintro e w4 ⟨rfl, hb4⟩
      have Hb4 := Lib.hid hb4
      clear hb4
      go_wp2_with fail
      refine (lives_any w4).mono ?_
      rintro e w5 ⟨rfl, hb5⟩
      have Hb5 := Lib.hid hb5
      clear hb5
      go_wp2_with fail
      go_ret
      exact ⟨rfl, B3.out.trans (below_mono (below_chain Hb4.out Hb5.out) hsz.out)⟩
set_option maxRecDepth 100000 in
theorem lifted (os : Os) (started : os.Started) (H : Type) (enc : TypeId × Value → H) :
    ReturnsInHanded {} Try.checked os 5 .any (Rows.unionfindUndoSpec.pre6 enc Try.prog Try.f5 Rows.unionfindUndoRow.domain false) (Rows.unionfindUndoSpec.post enc Try.prog Try.f5 false true false false) := by
  refine returnsInHanded_of_change (C := Try.checked) own started (by kernel_rfl) Try.func5
    (ChangeSpec.witness6 (enc := enc) (C := Try.checked) false ⟨#[], #[.slice none 0 0, .slice none 0 0], []⟩ 8 (by kernel_rfl) (by kernel_rfl) (by kernel_rfl) (by kernel_rfl)) ?_
  intro W base args ds gs before hval0 hW hcnd _
  have hval : ∀ (j : Nat) t v, Try.f5.params[j]? = some t → args[j]? = some v → Value.okWide Try.prog W .any base t v := hval0
  have hW' := hW
  obtain ⟨p, q, hA0, hV, rfl, hfz, hnd⟩ := hW
  have hA : DataW.TrodAll enc Try.prog W 0 (fun _ => true) true Try.f5.params.toList args.toList ds p := hA0
  rw [Try.params5] at hA hval
  obtain ⟨v0, vs0, d0, ds0, p0, q0, hargs, rfl, rfl, h0, r0⟩ := trodAll_cons hA
  obtain ⟨v1, vs1, d1, ds1, p1, q1, hargs1, rfl, rfl, h1, r1⟩ := trodAll_cons r0
  obtain ⟨rfl, rfl, rfl⟩ := trodAll_nil r1
  obtain rfl : args = #[v0, v1] := by cases args; simp_all
  obtain ⟨rfl, rfl⟩ := trodVars_none hV
  obtain ⟨a0, len0, cap0, rfl⟩ := okWide_slice Try.underlying22 (hval 0 22 v0 rfl rfl)
  obtain ⟨a1, len1, cap1, rfl⟩ := okWide_slice Try.underlying22 (hval 1 22 v1 rfl rfl)
  have k0 := h0
  have k1 := h1
  have lt0 : ∀ x ∈ p0, x.block < W.heap.size := by obtain ⟨m, hm⟩ := k0; exact DataW.trod_lt m _ _ _ hm
  have lt1 : ∀ x ∈ p1, x.block < W.heap.size := by obtain ⟨m, hm⟩ := k1; exact DataW.trod_lt m _ _ _ hm
  obtain ⟨ac, w0⟩ : ∃ ac, Acts W W.heap.size (.slice a0 len0 cap0) ac := by
    obtain ⟨fuel, hf⟩ := h0
    exact acts_open hf
  obtain ⟨ad, w1⟩ : ∃ ac, Acts W W.heap.size (.slice a1 len1 cap1) ac := by
    obtain ⟨fuel, hf⟩ := h1
    exact acts_open hf
  clear hA0 hval0
  have hwalk : Calls Try.prog 5 #[.slice a0 len0 cap0, .slice a1 len1 cap1] W fun e w' => e = .returned (.bool true) ∧ Below W.heap.size W w' := by
    by_cases hl : 20 < len0 ∨ 20 < len1
    · exact walk_long a0 a1 len0 cap0 len1 cap1 W hl
    · have hlen : ac.length = len0 := by
        obtain ⟨p, c, e⟩ := w0.shape
        injection e with _ e2 _
        exact e2.symm
      have hlen1 : ad.length = len1 := by
        obtain ⟨p, c, e⟩ := w1.shape
        injection e with _ e2 _
        exact e2.symm
      exact walk_short _ _ ac ad W w0 w1 (by omega) (by omega)
  refine hwalk.mono fun e W' ⟨he, bel⟩ => ?_
  subst he
  exact ⟨_, rfl, _, _, _, [], _, [], hW', trodAll_mk1 (shut_bool Try.underlying4 _), (trodAll_cons_mk (Below.trod laidOut (by kernel_rfl) (of_decide_eq_true (by kernel_rfl)) k0 bel lt0) (trodAll_cons_mk (Below.trod laidOut (by kernel_rfl) (of_decide_eq_true (by kernel_rfl)) k1 bel lt1) trodAll_mk0)), rfl, bel.frame _, fun h => by cases h⟩
theorem over : Rows.unionfindUndoRow.holds Try.pinned (OpenSpec.ofChange Rows.unionfindUndoSpec) :=
  OpenClaim.holds_of_wide 5 Try.f5 rfl rfl rfl rfl rfl rfl rfl ⟨rfl, rfl, rfl, rfl, rfl⟩ rfl rfl rfl rfl rfl (by kernel_rfl) Try.func5 (by kernel_rfl)
    (of_decide_eq_true (by kernel_rfl)) (by unfold Func.isWrapper; first | (rw [if_pos (by decide +kernel)]; kernel_rfl) | (rw [if_neg (by decide +kernel)]; exact ⟨rfl, rfl⟩))
    (fun os started H enc _ => lifted os started H enc)
/-- The statement. -/
theorem proved : Rows.UnionfindUndoSaid := over
#print axioms proved
end Go.Proofs.Ytihoegihmgeenaa.ufUndo
