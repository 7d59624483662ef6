/- After: an invalid program; the first set dropped. -/
import Derived.Test.YtjmmaaphadeokaaYN
import Derived.Test.YtjmmaaphadeokaaRG
namespace Go.Proofs.Ytjmmaaphadeokaa
open Go.RowKit Go.Shelf
set_option linter.unusedVariables false
set_option linter.unusedSimpArgs false
set_option maxRecDepth 100000 in
set_option maxHeartbeats 1000000 in
theorem after13_no (W R : Int) (p q : Option Addr) (pc qc : Nat) (ins : List I6) (out : List Int) (w : World) (hi : RI w p pc ins) (ho : RO w q qc out) (li : ins.length ≤ 300) (lo : out.length ≤ 20) (hc : chkE W R ins out ≠ 0) : Calls Try.prog 13 #[.agg #[.int .i64 W, .int .i64 R, .slice p ins.length pc, .slice q out.length qc]] w (AP [] w) := by
  have b4 := b4_new w (.int .i64 W) (.int .i64 R) (.slice p ins.length pc) (.slice q out.length qc) 25
  have k9 := bk_alloc (BK.refl w) (.cells #[.int .i64 W, .int .i64 R, .slice p ins.length pc, .slice q out.length qc] 25)
  have C30 := Lib.hid (fun (wc : World) (hb : BK w wc) => rchk28 W R p q pc qc ins out wc (hi.keep hb) (ho.keep hb) (by omega) (by omega))
  have hn : (chkE W R ins out == 0) = false := by simpa using hc
  clear hi ho
  generalize chkE W R ins out = y at C30 hn hc
  go_enter Try.func13, Try.ntmps13
  go_upto_region 1 with (fail)
  generalize w.alloc (.cells #[.int .i64 W, .int .i64 R, .slice p ins.length pc, .slice q out.length qc] 25) = w0 at b4 k9 ⊢
  have K9 := Lib.hid k9
  have HE0 := Lib.hid (own_empty w0 w0.heap.size (Nat.le_refl _) 23 1)
  have H4 := Lib.hid (fun wc (hb : BK w0 wc) => b4.keep hb)
  have K1 := Lib.hid (bk_alloc (BK.refl w0) (.cells #[] 23))
  clear b4 k9
  go_wp2_with fail
  generalize w0.alloc (.cells #[] 23) = w1 at HE0 K1 ⊢
  generalize hve : Value.slice (some ⟨w0.heap.size, 0, none⟩) 0 0 = ve at HE0 ⊢
  go_loopw [3, 4] (fun v j wr => v = ve ∧ j = .int .i64 0 ∧ RR wr w0.heap.size ve [] ∧ BK w0 wr) (fun _ j _ => 0)
  case atStart => exact ⟨rfl, rfl, RR.nil _ _ _ HE0.out, K1.out⟩
  case round =>
    obtain ⟨rfl, rfl, hrr, hkw⟩ := hrel
    have HK := Lib.hid hkw
    have HR := Lib.hid hrr
    obtain ⟨c0, c1, c2, c3⟩ := H4.out _ hkw
    by_cases hlt : 0 < ins.length
    · have hk8 : (0 : Int) < ins.length := by omega
      have R30 := Lib.hid (C30.out wr (bk_tr K9.out hkw))
      clear hrr hkw
      go_wp2_with fail
      refine R30.out.mono ?_
      rintro e w2 ⟨rfl, hb2⟩
      have K2 := Lib.hid (bk_tr HK.out hb2)
      have R2 := Lib.hid (HR.out.keep hb2)
      clear c0 c1 c2 c3 hb2
      go_wp2_with fail
      go_ret
      exact ⟨_, rfl, R2.out.mono (bk_size K9.out), bk_tr K9.out K2.out⟩
    · have hl0 : ins.length = 0 := by omega
      clear hrr hkw
      rw [hl0] at c2
      go_wp2_with fail
      go_ret
      exact ⟨_, rfl, HR.out.mono (bk_size K9.out), bk_tr K9.out HK.out⟩
set_option maxRecDepth 100000 in
set_option maxHeartbeats 1000000 in
theorem after12_no (W R : Int) (p q : Option Addr) (pc qc : Nat) (ins : List I6) (out : List Int) (w : World) (hi : RI w p pc ins) (ho : RO w q qc out) (li : ins.length ≤ 300) (lo : out.length ≤ 20) (hc : chkE W R ins out ≠ 0) : Calls Try.prog 12 #[.agg #[.int .i64 W, .int .i64 R, .slice p ins.length pc, .slice q out.length qc]] w (AP [] w) := by
  have b4 := b4_new w (.int .i64 W) (.int .i64 R) (.slice p ins.length pc) (.slice q out.length qc) 25
  have k9 := bk_alloc (BK.refl w) (.cells #[.int .i64 W, .int .i64 R, .slice p ins.length pc, .slice q out.length qc] 25)
  have C30 := Lib.hid (fun (wc : World) (hb : BK w wc) => chk30 W R p q pc qc ins out wc (hi.keep hb) (ho.keep hb) (by omega) (by omega))
  have hn : (chkE W R ins out != 0) = true := by simpa using hc
  clear hi ho hc
  generalize chkE W R ins out = y at C30 hn
  go_enter Try.func12, Try.ntmps12
  go_upto_region 1 with (fail)
  generalize w.alloc (.cells #[.int .i64 W, .int .i64 R, .slice p ins.length pc, .slice q out.length qc] 25) = w0 at b4 k9 ⊢
  obtain ⟨c0, c1, c2, c3⟩ := b4
  have K9 := Lib.hid k9
  clear k9
  go_wp2_with fail
  refine (C30.out w0 K9.out).mono ?_
  rintro e w1 ⟨rfl, hb1⟩
  have K1 := Lib.hid (bk_tr K9.out hb1)
  clear hb1 c0 c1 c2 c3
  go_wp2_with fail
  go_ret
  exact ⟨_, rfl, RR.nil _ _ _ (own_none _ _ _ _), K1.out⟩
theorem slice_one (g n : Nat) (w : World) : (Instr.slice 55 (.slice (some ⟨g, 0, none⟩) (n + 1) (n + 1)) (some (.int .i64 1)) none none).run Try.prog w = .ok (.slice (if n = 0 then some ⟨g, 0, none⟩ else some ⟨g, 8, none⟩) n n) w := by
  have z58 := Try.sizeOf58
  have he : Try.prog.elem 55 = 58 := by kernel_rfl
  have h := run_slice_l (P := Try.prog) w 55 (some ⟨g, 0, none⟩) (n + 1) (n + 1) (by kernel_rfl) .i64 (1 : Int) (by omega) (by omega)
  rw [h, he, z58]
  simp only [Result.andThen, sliced]
  by_cases h0 : n = 0
  · subst h0; simp
  · simp [h0, Addr.add]
end Go.Proofs.Ytjmmaaphadeokaa
