/- Programs compared. -/
import Derived.Test.YtjmmaaphadeokaaRF
namespace Go.Proofs.Ytjmmaaphadeokaa
open Go.RowKit Go.Shelf
set_option linter.unusedVariables false
set_option linter.unusedSimpArgs false
theorem eqL_self (l : List Int) : eqL l l = true := decide_eq_true rfl
set_option maxRecDepth 100000 in
set_option maxHeartbeats 2000000 in
/-- two programs with the same instructions and the same Out are the same -/
theorem same23 (W R : Int) (p q p' q' : Option Addr) (pc qc pc' qc' : Nat) (ins : List I6) (out : List Int) (w : World) (hi : RI w p pc ins) (ho : RO w q qc out) (hi' : RI w p' pc' ins) (ho' : RO w q' qc' out) (li : ins.length ≤ 1000) (lo : out.length ≤ 1000) :
    Calls Try.prog 23 #[.agg #[.int .i64 W, .int .i64 R, .slice p ins.length pc, .slice q out.length qc], .agg #[.int .i64 W, .int .i64 R, .slice p' ins.length pc', .slice q' out.length qc']] w fun e w' => e = .returned (.bool true) ∧ BK w w' := by
  have b4 := (b4_new w (.int .i64 W) (.int .i64 R) (.slice p ins.length pc) (.slice q out.length qc) 25).keep (bk_alloc (BK.refl _) (.cells #[.int .i64 W, .int .i64 R, .slice p' ins.length pc', .slice q' out.length qc'] 25))
  have d4 := b4_new (w.alloc (.cells #[.int .i64 W, .int .i64 R, .slice p ins.length pc, .slice q out.length qc] 25)) (.int .i64 W) (.int .i64 R) (.slice p' ins.length pc') (.slice q' out.length qc') 25
  rw [sz1] at d4
  have k0 := bk_alloc (bk_alloc (BK.refl w) (.cells #[.int .i64 W, .int .i64 R, .slice p ins.length pc, .slice q out.length qc] 25)) (.cells #[.int .i64 W, .int .i64 R, .slice p' ins.length pc', .slice q' out.length qc'] 25)
  have C14 := Lib.hid (fun (wc : World) (hb : BK w wc) => by have := same14 out out q q' qc qc' wc (ho.keep hb) (ho'.keep hb) (by omega) (by omega); rw [eqL_self] at this; exact this)
  have HI := Lib.hid hi
  have HI' := Lib.hid hi'
  clear hi ho hi' ho'
  go_enter Try.func23, Try.ntmps23
  go_upto_region 1 with (fail)
  generalize (w.alloc (.cells #[.int .i64 W, .int .i64 R, .slice p ins.length pc, .slice q out.length qc] 25)).alloc (.cells #[.int .i64 W, .int .i64 R, .slice p' ins.length pc', .slice q' out.length qc'] 25) = w0 at b4 d4 k0 ⊢
  have HB := Lib.hid b4
  have HD := Lib.hid d4
  have K0 := Lib.hid k0
  obtain ⟨c0, c1, c2, c3⟩ := b4
  obtain ⟨d0, d1, d2, d3⟩ := d4
  clear k0
  go_wp2_with fail
  refine (C14.out w0 K0.out).mono ?_
  rintro e w1 ⟨rfl, hb1⟩
  have J1 := Lib.hid hb1
  clear hb1 c0 c1 c2 c3 d0 d1 d2 d3
  go_wp2_with fail
  go_loopw [5] (fun i wr => ∃ k : Nat, k ≤ ins.length ∧ i = .int .i64 k ∧ BK w0 wr) (fun i _ => ins.length - (intOf i).toNat)
  case atStart => exact ⟨0, Nat.zero_le _, rfl, J1.out⟩
  case round =>
    obtain ⟨k, hk, rfl, hkw⟩ := hrel
    have HK := Lib.hid hkw
    obtain ⟨c0, c1, c2, c3⟩ := HB.out.keep hkw
    obtain ⟨d0, d1, d2, d3⟩ := HD.out.keep hkw
    by_cases hlt : k < ins.length
    · obtain ⟨b, o, rfl, hc⟩ := (HI.out.keep (bk_tr K0.out hkw)).get k hlt
      obtain ⟨b', o', rfl, hc'⟩ := (HI'.out.keep (bk_tr K0.out hkw)).get k hlt
      clear hkw
      generalize ins[k] = i at hc hc'
      obtain ⟨x0, x1, x2, x3, x4, x5⟩ := hc
      obtain ⟨y0, y1, y2, y3, y4, y5⟩ := hc'
      go_wp2_with fail
      go_quiet (fail)
      go_wp2_with fail
      go_roundw
      case rel => exact ⟨k + 1, by omega, by go_num, bk_drewN HK.out _⟩
      case measure => simp [intOf]; omega
    · clear hkw
      go_wp2_with fail
      go_ret
      exact ⟨rfl, bk_tr K0.out HK.out⟩
/-- a program and an error come back -/
def RES (E W R : Int) (L : List I6) (O : List Int) (w : World) (e : Ending) (w' : World) : Prop :=
  ∃ p' pc' q' qc', e = .returned (.tuple #[.agg #[.int .i64 W, .int .i64 R, .slice p' L.length pc', .slice q' O.length qc'], .int .i64 E]) ∧ RI w' p' pc' L ∧ RO w' q' qc' O ∧ BK w w'
theorem res_zero {x : Int} {w w' : World} {e : Ending} (h : ZP x w e w') : RES x 0 0 [] [] w e w' :=
  ⟨none, 0, none, 0, h.1, ⟨fun _ => rfl, by simp, fun k hk => by simp at hk⟩, ⟨fun _ => rfl, by simp, fun k hk => by simp at hk⟩, h.2⟩
theorem res_ok {W R : Int} {L : List I6} {out : List Int} {w w' : World} {e : Ending} (h : RP w W R L out e w') : RES 0 W R L out w e w' := h
end Go.Proofs.Ytjmmaaphadeokaa
