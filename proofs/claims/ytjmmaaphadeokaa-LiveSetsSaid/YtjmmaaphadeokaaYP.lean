/- After of the program. -/
import Derived.Test.YtjmmaaphadeokaaYO
namespace Go.Proofs.Ytjmmaaphadeokaa
open Go.RowKit Go.Shelf
set_option linter.unusedVariables false
set_option linter.unusedSimpArgs false
set_option maxRecDepth 100000 in
set_option maxHeartbeats 2000000 in
/-- After, a valid program -/
theorem after12_ok (W R : Int) (p q : Option Addr) (pc qc : Nat) (ins : List I6) (out : List Int) (w : World) (hi : RI w p pc ins) (ho : RO w q qc out) (lo : out.length ≤ 20) (hv : Vd W R ins out) : Calls Try.prog 12 #[.agg #[.int .i64 W, .int .i64 R, .slice p ins.length pc, .slice q out.length qc]] w (AP (aftL 8 ins out ins.length) w) := by
  have li := hv.len
  obtain ⟨hreg, hin⟩ := valid_reg hv
  obtain ⟨i0, hi0, hz0, hz1, hz2⟩ := info_parts info23
  have b4 := b4_new w (.int .i64 W) (.int .i64 R) (.slice p ins.length pc) (.slice q out.length qc) 25
  have k9 := bk_alloc (BK.refl w) (.cells #[.int .i64 W, .int .i64 R, .slice p ins.length pc, .slice q out.length qc] 25)
  have C30 := Lib.hid (fun (wc : World) (hb : BK w wc) => (chk30 W R p q pc qc ins out wc (hi.keep hb) (ho.keep hb) (by omega) (by omega)).mono (R' := fun e w' => e = .returned (.int .i64 0) ∧ BK wc w') fun e w' ⟨a, b⟩ => ⟨by rw [a, chk_zero.2 hv], b⟩)
  have C31 := Lib.hid (fun (wc : World) (hb : BK w wc) => between31 W R p q pc qc ins out wc (hi.keep hb) (ho.keep hb) li (by omega) hin hreg)
  have HS := Lib.hid (fun k => aftL_succ 8 ins out k)
  have HLN := Lib.hid (fun k => aftL_len 8 ins out k)
  clear hi ho hv hreg hin
  go_enter Try.func12, Try.ntmps12
  go_upto_region 1 with (fail)
  generalize w.alloc (.cells #[.int .i64 W, .int .i64 R, .slice p ins.length pc, .slice q out.length qc] 25) = w0 at b4 k9 ⊢
  have HB := Lib.hid b4
  obtain ⟨c0, c1, c2, c3⟩ := b4
  have K9 := Lib.hid k9
  clear k9
  go_wp2_with fail
  refine (C30.out w0 K9.out).mono ?_
  rintro e w1 ⟨rfl, hb1⟩
  have K1 := Lib.hid (bk_tr K9.out hb1)
  clear c0 c1 c2 c3
  obtain ⟨c0, c1, c2, c3⟩ := HB.out.keep hb1
  clear hb1
  go_wp2_with fail
  refine (C31.out w1 K1.out).mono ?_
  rintro e w2 ⟨g, rfl, hg, hrs, hb2⟩
  have HRS := Lib.hid hrs
  have K2 := Lib.hid (bk_tr K1.out hb2)
  have hs1 := fun wc => slice_one g ins.length wc
  have hq : ∀ k, k < ins.length → (if ins.length = 0 then some (⟨g, 0, none⟩ : Addr) else some ⟨g, 8, none⟩) = some ⟨g, 8, none⟩ := fun k hk => if_neg (by omega)
  have HQ := Lib.hid hq
  generalize (if ins.length = 0 then some (⟨g, 0, none⟩ : Addr) else some ⟨g, 8, none⟩) = q9 at hs1 HQ
  clear hq hrs hb2 c0 c1 c2 c3 hg
  go_wp2_with fail
  clear hs1
  go_loopw [3, 13] (fun v j wr => ∃ k : Nat, k ≤ ins.length ∧ j = .int .i64 k ∧ RR wr w2.heap.size v (aftL 8 ins out k) ∧ BK w2 wr) (fun _ j _ => ins.length - (intOf j).toNat)
  case atStart => exact ⟨0, Nat.zero_le _, rfl, RR.nil _ _ _ (own_none _ _ _ _), BK.refl _⟩
  case round =>
    obtain ⟨k, hk, rfl, hrr, hkw⟩ := hrel
    have HK := Lib.hid hkw
    have HR := Lib.hid hrr
    by_cases hlt : k < ins.length
    · have hk8 : (k : Int) < ins.length := by omega
      have HR9 := Lib.hid ((HRS.out.keep hkw).at_ (k + 1) (Nat.zero_le _) (by omega))
      have e9 := HQ.out k hlt
      subst e9
      have e8 : 8 + k * 8 = (k + 1) * 8 := by omega
      have hl8 := lvL_len (ins.drop (k + 1)) out
      have hup := upL_lv (ins.drop (k + 1)) out
      rw [← e8] at HR9
      clear hrr hkw e8
      generalize lvL (ins.drop (k + 1)) out = s at HR9 hl8 hup
      have H8 := Lib.hid hl8
      have HUP := Lib.hid hup
      clear hl8 hup
      go_upto_region 7 with (first | (refine wpList_load_mid rfl 58 _ rfl g (8 + k * 8) ?hx (bs s) _ HR9.out Try.underlying58 rfl (hi58 _ H8.out) ?_; (case hx => first | rfl | simp [Act.eval])) | (refine wpList_store_row rfl 58 _ _ rfl wr.heap.size (ba s) rfl rfl 58 _ (heap_alloc_last _ _) (by rw [ba_size, H8.out]; kernel_rfl) (by rw [ba_size, H8.out]; rfl) (ba_one _) ?_; rw [World.setRow_alloc_new]))
      have s5 := SH.new wr s
      have k5 := bk_alloc (BK.refl wr) (.cells (ba s) 58)
      generalize wr.alloc (.cells (ba s) 58) = w5 at s5 k5 ⊢
      generalize wr.heap.size = B5 at s5 ⊢
      have S5 := Lib.hid s5
      have K5 := Lib.hid (bk_tr HK.out k5)
      have R5 := Lib.hid (HR.out.keep k5)
      have C32 := Lib.hid (list32 s w5 H8.out)
      clear s5 k5
      go_wp2_with (refine wpList_load_row rfl 58 _ rfl B5 rfl 58 (ba s) (0, 0) _ S5.out Try.underlying58 rfl (by rw [ba_size, H8.out]; kernel_rfl) ?_)
      refine C32.out.mono ?_
      rintro e w3 ⟨u, rfl, ho3, hb3⟩
      have K3 := Lib.hid (bk_tr K5.out hb3)
      obtain ⟨vs, r1, r2⟩ := R5.out.keep hb3
      have HU := Lib.hid (own_mono ho3 (show w2.heap.size ≤ w5.heap.size from bk_size K5.out))
      have HR1 := Lib.hid r1
      have HR2 := Lib.hid r2
      have hln := HLN.out k
      obtain ⟨pu, cu, rfl⟩ := own_shape ho3
      clear hb3 ho3 r1 r2
      have hml : (aftL 8 ins out k).length + 1 ≤ maxLen := by unfold maxLen; omega
      have hown := HR1.out
      have hbs := K3.out.bl.size
      generalize hul : (upL s 8).length = ul at *
      have HUL := Lib.hid hul
      clear hul
      go_wp2_with (at_builtin; refine wpList_append_own _ rfl _ _ 28 rfl w2.heap.size 23 i0 (.slice none 0 0) 1 24 Try.underlying28 hi0 hz0 hz1 hz2 rfl (by decide) _ _ _ rfl (hown.alloc _) ⟨w3.heap.size, 0, none⟩ 1 1 [.slice pu ul cu] rfl rfl (one_new _ _ _) (by simp [Value.oneCell']) hml (by omega) (by simp; omega) ?_; intro v' w4 hown' hgrow _; have HO4 := Lib.hid hown'; have HG4 := Lib.hid hgrow; have HB4 := Lib.hid (show BK w2 w4 from (K3.out.bl.alloc hbs _).grown hgrow (by simp; omega) (fun r hr => (World.ownsRow.lt hown r hr).1)); clear hown' hgrow)
      go_roundw
      case rel => exact ⟨k + 1, by omega, by go_num, by rw [HS.out, ← HUP.out]; exact RR.snoc (HR1.out.alloc _) (fun j hj => by obtain ⟨x, a, b⟩ := HR2.out j hj; exact ⟨x, a, b.alloc _⟩) (by rw [HUL.out]; exact HU.out.alloc _) HO4.out HG4.out, HB4.out⟩
      case measure => first | (simp [intOf]; done) | (simp [intOf]; omega)
    · obtain rfl : k = ins.length := by omega
      clear hrr hkw
      go_wp2_with fail
      go_ret
      exact ⟨_, rfl, HR.out.mono (bk_size K2.out), bk_tr K2.out HK.out⟩
end Go.Proofs.Ytjmmaaphadeokaa
