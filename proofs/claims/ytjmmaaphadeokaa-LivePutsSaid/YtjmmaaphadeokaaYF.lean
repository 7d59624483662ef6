/- Window: what comes back; errors. -/
import Derived.Test.YtjmmaaphadeokaaYC
import Derived.Test.YtjmmaaphadeokaaRG
namespace Go.Proofs.Ytjmmaaphadeokaa
open Go.RowKit Go.Shelf
set_option linter.unusedVariables false
set_option linter.unusedSimpArgs false
/-- the registers that l defines and that are live behind it -/
def dfS (t : List I6) (out : List Int) (l : List I6) : List Bool := (List.range 8).map (fun r : Nat => usedB t out r && anyDefB l r)
theorem dfS_len (t : List I6) (out : List Int) (l : List I6) : (dfS t out l).length = 8 := by simp [dfS]
theorem dfS_nil (t : List I6) (out : List Int) : dfS t out [] = hvL [] := by
  unfold dfS hvL
  refine List.map_congr_left fun r _ => ?_
  simp [anyDefB, hasB]
theorem anyDef_snoc (l : List I6) (i : I6) (r : Int) : anyDefB (l ++ [i]) r = (anyDefB l r || defB i r) := by
  unfold anyDefB; simp
theorem dfS_no (t : List I6) (out : List Int) (l : List I6) (i : I6) (h : dfB i.op = false) : dfS t out (l ++ [i]) = dfS t out l := by
  unfold dfS
  refine List.map_congr_left fun r _ => ?_
  rw [anyDef_snoc]
  simp [defB, h]
theorem dfS_yes (t : List I6) (out : List Int) (l : List I6) (i : I6) (a : Nat) (h : dfB i.op = true) (ha : i.dst = a) (h8 : a < 8) : dfS t out (l ++ [i]) = (dfS t out l).set a (usedB t out a) := by
  apply List.ext_getElem
  · simp [dfS]
  · intro k h1 h2
    have hk : k < 8 := by simpa [dfS] using h1
    rw [List.getElem_set]
    by_cases e : a = k
    · subst e
      simp [dfS, anyDef_snoc, defB, h, ha]
    · rw [if_neg e]
      simp only [dfS, List.getElem_map, List.getElem_range, anyDef_snoc, defB, h, ha]
      have : ¬ (a : Int) = (k : Int) := by omega
      simp [this]
theorem upL_df (t : List I6) (out : List Int) (l : List I6) : upL (dfS t out l) 8 = winOut 8 l t out := by
  have e : (List.range 8).filter (fun r => (dfS t out l).getD r false) = (List.range 8).filter (fun r : Nat => usedB t out r && anyDefB l r) := by
    refine List.filter_congr fun r hr => ?_
    have : r < 8 := by simpa using hr
    simp [dfS, this]
  unfold upL winOut
  rw [e]
set_option maxRecDepth 100000 in
set_option maxHeartbeats 1000000 in
theorem win24_err (W R : Int) (p q : Option Addr) (pc qc : Nat) (ins : List I6) (out : List Int) (f n : Int) (w : World) (hi : RI w p pc ins) (ho : RO w q qc out) (li : ins.length ≤ 300) (lo : out.length ≤ 20) (f2 : f ≤ 9223372036854775807) (n2 : n ≤ 9223372036854775807) (hx : winE W R ins out f n ≠ 0) : Calls Try.prog 24 #[.agg #[.int .i64 W, .int .i64 R, .slice p ins.length pc, .slice q out.length qc], .int .i64 f, .int .i64 n] w (ZP (winE W R ins out f n) w) := by
  have hz := W4.new (w.alloc (.cells #[.int .i64 W, .int .i64 R, .slice p ins.length pc, .slice q out.length qc] 25)) (.int .i64 0) (.int .i64 0) (.slice none 0 0) (.slice none 0 0)
  rw [sz1] at hz
  have b4 := (b4_new w (.int .i64 W) (.int .i64 R) (.slice p ins.length pc) (.slice q out.length qc) 25).keep (bk_alloc (BK.refl _) (.cells #[.int .i64 0, .int .i64 0, .slice none 0 0, .slice none 0 0] 25))
  have k0 := bk_alloc (bk_alloc (BK.refl w) (.cells #[.int .i64 W, .int .i64 R, .slice p ins.length pc, .slice q out.length qc] 25)) (.cells #[.int .i64 0, .int .i64 0, .slice none 0 0, .slice none 0 0] 25)
  have C43 := Lib.hid (fun (wc : World) (hb : BK w wc) => win43 W R p q pc qc ins out wc (hi.keep hb) (ho.keep hb) (by omega) (by omega) f n f2 n2)
  have hn : (winE W R ins out f n != 0) = true := by simpa using hx
  clear hi ho hx
  generalize winE W R ins out f n = x at C43 hn ⊢
  go_enter Try.func24, Try.ntmps24
  go_upto_region 1 with (fail)
  generalize (w.alloc (.cells #[.int .i64 W, .int .i64 R, .slice p ins.length pc, .slice q out.length qc] 25)).alloc (.cells #[.int .i64 0, .int .i64 0, .slice none 0 0, .slice none 0 0] 25) = w0 at b4 hz k0 ⊢
  have HZ := Lib.hid hz
  have K0 := Lib.hid k0
  obtain ⟨c0, c1, c2, c3⟩ := b4
  clear hz k0
  go_wp2_with fail
  refine (C43.out w0 K0.out).mono ?_
  rintro e w1 ⟨rfl, hb1⟩
  have K1 := Lib.hid (bk_tr K0.out hb1)
  have J1 := Lib.hid hb1
  clear hb1 c0 c1 c2 c3
  obtain ⟨⟨z0, z1, z2, z3⟩, g0, g1, g2, g3⟩ := (HZ.out.keep J1.out).cells
  go_wp2_with fail
  refine bodyPost_ret (v := .tuple #[.agg #[.int .i64 0, .int .i64 0, .slice none 0 0, .slice none 0 0], .int .i64 x]) (by simp [results, Try.results24, go_sem, z0, z1, z2, z3]) rfl ⟨rfl, ?_⟩
  repeat (first | exact K1.out | refine bk_set ?_ _ _ (by show w.heap.size ≤ w.heap.size + 1; omega))
set_option maxRecDepth 100000 in
set_option maxHeartbeats 1000000 in
theorem win25_err (W R : Int) (p q : Option Addr) (pc qc : Nat) (ins : List I6) (out : List Int) (f n : Int) (w : World) (hi : RI w p pc ins) (ho : RO w q qc out) (li : ins.length ≤ 300) (lo : out.length ≤ 20) (f2 : f ≤ 9223372036854775807) (n2 : n ≤ 9223372036854775807) (hx : winE W R ins out f n ≠ 0) : Calls Try.prog 25 #[.agg #[.int .i64 W, .int .i64 R, .slice p ins.length pc, .slice q out.length qc], .int .i64 f, .int .i64 n] w (ZP (winE W R ins out f n) w) := by
  have hz := W4.new (w.alloc (.cells #[.int .i64 W, .int .i64 R, .slice p ins.length pc, .slice q out.length qc] 25)) (.int .i64 0) (.int .i64 0) (.slice none 0 0) (.slice none 0 0)
  rw [sz1] at hz
  have b4 := (b4_new w (.int .i64 W) (.int .i64 R) (.slice p ins.length pc) (.slice q out.length qc) 25).keep (bk_alloc (BK.refl _) (.cells #[.int .i64 0, .int .i64 0, .slice none 0 0, .slice none 0 0] 25))
  have k0 := bk_alloc (bk_alloc (BK.refl w) (.cells #[.int .i64 W, .int .i64 R, .slice p ins.length pc, .slice q out.length qc] 25)) (.cells #[.int .i64 0, .int .i64 0, .slice none 0 0, .slice none 0 0] 25)
  have C43 := Lib.hid (fun (wc : World) (hb : BK w wc) => win46 W R p q pc qc ins out wc (hi.keep hb) (ho.keep hb) (by omega) (by omega) f n f2 n2)
  have hn : (winE W R ins out f n != 0) = true := by simpa using hx
  clear hi ho hx
  generalize winE W R ins out f n = x at C43 hn ⊢
  go_enter Try.func25, Try.ntmps25
  go_upto_region 1 with (fail)
  generalize (w.alloc (.cells #[.int .i64 W, .int .i64 R, .slice p ins.length pc, .slice q out.length qc] 25)).alloc (.cells #[.int .i64 0, .int .i64 0, .slice none 0 0, .slice none 0 0] 25) = w0 at b4 hz k0 ⊢
  have HZ := Lib.hid hz
  have K0 := Lib.hid k0
  obtain ⟨c0, c1, c2, c3⟩ := b4
  clear hz k0
  go_wp2_with fail
  refine (C43.out w0 K0.out).mono ?_
  rintro e w1 ⟨rfl, hb1⟩
  have K1 := Lib.hid (bk_tr K0.out hb1)
  have J1 := Lib.hid hb1
  clear hb1 c0 c1 c2 c3
  obtain ⟨⟨z0, z1, z2, z3⟩, g0, g1, g2, g3⟩ := (HZ.out.keep J1.out).cells
  go_wp2_with fail
  refine bodyPost_ret (v := .tuple #[.agg #[.int .i64 0, .int .i64 0, .slice none 0 0, .slice none 0 0], .int .i64 x]) (by simp [results, Try.results25, go_sem, z0, z1, z2, z3]) rfl ⟨rfl, ?_⟩
  repeat (first | exact K1.out | refine bk_set ?_ _ _ (by show w.heap.size ≤ w.heap.size + 1; omega))
end Go.Proofs.Ytjmmaaphadeokaa
