/- Dead instructions; a set as a list. -/
import Derived.Test.YtjmmaaphadeokaaO
namespace Go.Proofs.Ytjmmaaphadeokaa
open Go.RowKit
set_option linter.unusedVariables false
set_option linter.unusedSimpArgs false
def deadS (i : I6) (s : List Bool) : Bool := !dfB i.op || !s.getD i.dst.toNat false
set_option maxRecDepth 100000 in
set_option maxHeartbeats 1000000 in
theorem dead38_no (i : I6) (s : List Bool) (w : World) (hs : s.length = 8) (hd : dfB i.op = false) :
    Calls Try.prog 38 #[.agg #[.int .i64 i.op, .int .i64 i.dst, .int .i64 i.a, .int .i64 i.b, .int .i64 i.c, .int .u64 i.imm], .agg (ba s)] w fun e w' => e = .returned (.bool true) ∧ BK w w' := by
  have x6 := (x6_new w i 54).keep (bk_alloc (BK.refl _) (.cells (ba s) 58))
  have k0 := bk_alloc (bk_alloc (BK.refl w) (.cells #[.int .i64 i.op, .int .i64 i.dst, .int .i64 i.a, .int .i64 i.b, .int .i64 i.c, .int .u64 i.imm] 54)) (.cells (ba s) 58)
  have HD := Lib.hid (fun wc : World => (def45 i wc).mono (R' := fun e w' => e = .returned (.tuple #[.int .i64 0, .bool false]) ∧ BK wc w') fun e w' ⟨h1, h2⟩ => ⟨by rw [h1, hd, show defV i = 0 from by unfold defV; rw [hd]; rfl], h2⟩)
  clear hd hs
  go_enter Try.func38, Try.ntmps38
  go_upto_region 1 with (fail)
  generalize (w.alloc (.cells #[.int .i64 i.op, .int .i64 i.dst, .int .i64 i.a, .int .i64 i.b, .int .i64 i.c, .int .u64 i.imm] 54)).alloc (.cells (ba s) 58) = w1 at x6 k0 ⊢
  obtain ⟨y0, y1, y2, y3, y4, y5⟩ := x6
  have K0 := Lib.hid k0
  clear k0
  go_wp2_with fail
  refine (HD.out _).mono ?_
  rintro e w3 ⟨rfl, hb3⟩
  have K3 := Lib.hid (bk_tr K0.out hb3)
  clear hb3
  go_wp2_with fail
  go_ret
  exact ⟨rfl, K3.out⟩
set_option maxRecDepth 100000 in
set_option maxHeartbeats 1000000 in
theorem dead38_yes (i : I6) (s : List Bool) (w : World) (hs : s.length = 8) (hd : dfB i.op = true) (h0 : 0 ≤ i.dst) (h8 : i.dst < 8) :
    Calls Try.prog 38 #[.agg #[.int .i64 i.op, .int .i64 i.dst, .int .i64 i.a, .int .i64 i.b, .int .i64 i.c, .int .u64 i.imm], .agg (ba s)] w fun e w' => e = .returned (.bool (!s.getD i.dst.toNat false)) ∧ BK w w' := by
  have x6 := (x6_new w i 54).keep (bk_alloc (BK.refl _) (.cells (ba s) 58))
  have k0 := bk_alloc (bk_alloc (BK.refl w) (.cells #[.int .i64 i.op, .int .i64 i.dst, .int .i64 i.a, .int .i64 i.b, .int .i64 i.c, .int .u64 i.imm] 54)) (.cells (ba s) 58)
  have a1 := SH.new (w.alloc (.cells #[.int .i64 i.op, .int .i64 i.dst, .int .i64 i.a, .int .i64 i.b, .int .i64 i.c, .int .u64 i.imm] 54)) s
  rw [sz1] at a1
  obtain ⟨a, ha⟩ : ∃ a : Nat, i.dst = a := ⟨i.dst.toNat, by omega⟩
  have ha8 : a < 8 := by omega
  have hi0 : (0 : Int) ≤ a := by omega
  have hi1 : (a : Int) < 8 := by omega
  have hg : s.getD i.dst.toNat false = s[a]'(by omega) := by rw [ha]; simp [hs, ha8]
  have HD := Lib.hid (fun wc : World => (def45 i wc).mono (R' := fun e w' => e = .returned (.tuple #[.int .i64 (a : Int), .bool true]) ∧ BK wc w') fun e w' ⟨h1, h2⟩ => ⟨by rw [h1, hd, show defV i = a from by unfold defV; rw [if_pos hd, ha]], h2⟩)
  rw [hg]
  have HC := Lib.hid (fun (wc : World) (h : SH wc (w.heap.size + 1) s) => h.cell a (by omega))
  generalize s[a]'(by omega) = z at HC ⊢
  clear hd hs ha h0 h8 hg
  go_enter Try.func38, Try.ntmps38
  go_upto_region 1 with (fail)
  generalize (w.alloc (.cells #[.int .i64 i.op, .int .i64 i.dst, .int .i64 i.a, .int .i64 i.b, .int .i64 i.c, .int .u64 i.imm] 54)).alloc (.cells (ba s) 58) = w1 at x6 k0 a1 ⊢
  obtain ⟨y0, y1, y2, y3, y4, y5⟩ := x6
  have K0 := Lib.hid k0
  have A1 := Lib.hid a1
  clear k0 a1
  go_wp2_with fail
  refine (HD.out _).mono ?_
  rintro e w3 ⟨rfl, hb3⟩
  have K3 := Lib.hid (bk_tr K0.out hb3)
  have c1 := HC.out _ (A1.out.keep hb3)
  clear hb3 y0 y1 y2 y3 y4 y5
  go_wp2_with fail
  go_ret
  exact ⟨rfl, K3.out⟩
theorem dead38 (i : I6) (s : List Bool) (w : World) (hs : s.length = 8) (hr : RegOk i) :
    Calls Try.prog 38 #[.agg #[.int .i64 i.op, .int .i64 i.dst, .int .i64 i.a, .int .i64 i.b, .int .i64 i.c, .int .u64 i.imm], .agg (ba s)] w fun e w' => e = .returned (.bool (deadS i s)) ∧ BK w w' := by
  cases hd : dfB i.op
  · rw [show deadS i s = true from by unfold deadS; rw [hd]; rfl]; exact dead38_no i s w hs hd
  · rw [show deadS i s = !s.getD i.dst.toNat false from by unfold deadS; rw [hd]; rfl]; exact dead38_yes i s w hs hd (hr.2 hd).1 (hr.2 hd).2
theorem deadS_lv (i : I6) (t : List I6) (out : List Int) (hr : RegOk i) : deadS i (lvL t out) = deadB i t out := by
  unfold deadS deadB
  cases hd : dfB i.op
  · rfl
  · obtain ⟨h0, h8⟩ := hr.2 hd
    rw [lvL_get t out _ (by omega)]
    rw [show ((i.dst.toNat : Nat) : Int) = i.dst by omega]
/-- the numbers below k that a set holds -/
def upL (s : List Bool) (k : Nat) : List Int := ((List.range k).filter (fun r => s.getD r false)).map (fun r : Nat => (r : Int))
theorem upL_succ (s : List Bool) (k : Nat) : upL s (k + 1) = if s.getD k false = true then upL s k ++ [(k : Int)] else upL s k := by
  unfold upL
  rw [List.range_succ, List.filter_append]
  cases h : s.getD k false <;> simp [h] <;> simp_all
theorem upL_len (s : List Bool) (k : Nat) : (upL s k).length ≤ k := by
  unfold upL; simp
  have := List.length_filter_le (fun r => s.getD r false) (List.range k)
  simpa using this
theorem info3 : (Try.prog.info? 3).map (fun i => (i.zero, i.size, i.bytes)) = some (some (.int .i64 0), 1, 8) := by kernel_rfl
theorem run_ix58 (s : List Bool) (k : Nat) (hk : k < 8) (hs : s.length = 8) (w : World) : (Instr.index 58 (.agg (ba s)) (.int .i64 k)).run Try.prog w = .ok (.bool (s.getD k false)) w := by
  have hc : (ba s)[k]? = some (.bool (s.getD k false)) := by rw [ba_get s k (by omega)]; simp [hs, hk]
  have h0 : (0 : Int) ≤ k := by omega
  have z4 := Try.sizeOf4
  have a4 := Try.isAgg4
  simp [Instr.index, run_underlying Try.underlying58, asIntOf, h0, hk, go_sem, z4, a4, hc]
theorem one_new (w : World) (v : Value) (T : Nat) : ∀ j u, [v][j]? = some u → (w.alloc (.cells #[v] T)).cell? ((⟨w.heap.size, 0, none⟩ : Addr).add j) = some u := by
  intro j u hj
  match j, hj with
  | 0, hj => simp at hj; subst hj; simp [Addr.add]
def LP (l : List Int) (w : World) (e : Ending) (w' : World) : Prop := ∃ v, e = .returned v ∧ w'.ownsRow w.heap.size 3 1 v l.length (ints l) ∧ BK w w'
set_option maxRecDepth 100000 in
set_option maxHeartbeats 1000000 in
theorem list32 (s : List Bool) (w : World) (hs : s.length = 8) : Calls Try.prog 32 #[.agg (ba s)] w (LP (upL s 8) w) := by
  obtain ⟨i0, hi, hz0, hz1, hz2⟩ := info_parts info3
  have a1 := SH.new w s
  have k0 := bk_alloc (BK.refl w) (.cells (ba s) 58)
  have HS := Lib.hid hs
  have HIX := Lib.hid (fun (k : Nat) (hk : k < 8) => run_ix58 s k hk hs)
  have HSZ := Lib.hid (show (ba s).size = 8 from by rw [ba_size, hs])
  clear hs
  go_enter Try.func32, Try.ntmps32
  go_upto_region 2 with (fail)
  generalize w.alloc (.cells (ba s) 58) = w1 at a1 k0 ⊢
  have A1 := Lib.hid a1
  have K1 := Lib.hid k0
  clear k0 a1
  refine wp_region_lit ?_
  refine wpList_load_row rfl 58 _ rfl w.heap.size rfl 58 (ba s) (0, 0) _ A1.out Try.underlying58 rfl (by rw [HSZ.out]; kernel_rfl) ?_
  go_wp2_with fail
  go_loopw [3, 7] (fun v j wr => ∃ k : Nat, k ≤ 8 ∧ j = .int .i64 k ∧ wr.ownsRow w.heap.size 3 1 v (upL s k).length (ints (upL s k)) ∧ BK w wr) (fun _ j _ => 8 - (intOf j).toNat)
  case atStart => exact ⟨0, by omega, rfl, World.ownsRow_nil _ _ _ _, K1.out⟩
  case round =>
    obtain ⟨k, hk, rfl, hown, hkw⟩ := hrel
    by_cases hlt : k < 8
    · have hix := HIX.out k hlt
      have hul := upL_len s k
      have HSU := Lib.hid (upL_succ s k)
      generalize s.getD k false = z at hix HSU
      have HB := Lib.hid hkw
      have HO := Lib.hid hown
      clear hown hkw
      cases z
      · have H1 := Lib.hid (HSU.out.trans (if_neg (by simp)))
        go_wp2_with fail
        go_roundw
        case rel => exact ⟨k + 1, by omega, by go_num, by rw [H1.out]; exact HO.out, HB.out⟩
        case measure => simp [intOf]; omega
      · have H1 := Lib.hid (HSU.out.trans (if_pos rfl))
        have hown := HO.out
        have hbs := HB.out.bl.size
        have hml : (upL s k).length + 1 ≤ maxLen := by unfold maxLen; omega
        go_wp2_with (at_builtin; refine wpList_append_own _ rfl _ _ 23 rfl w.heap.size 3 i0 (.int .i64 0) 1 8 Try.underlying23 hi hz0 hz1 hz2 rfl (by decide) _ _ _ rfl (hown.alloc _) ⟨wr.heap.size, 0, none⟩ 1 1 [.int .i64 (k : Int)] rfl rfl (one_new _ _ _) (by simp [Value.oneCell']) hml (by omega) (by simp; omega) ?_; intro v' w1 hown' hgrow _; have HO1 := Lib.hid (show w1.ownsRow w.heap.size 3 1 v' (upL s (k + 1)).length (ints (upL s (k + 1))) from by rw [H1.out]; exact own_cast hown' (by simp) (by simp [ints])); have HB1 := Lib.hid (show BK w w1 from (HB.out.bl.alloc hbs _).grown hgrow (by simp; omega) (fun r hr => (World.ownsRow.lt hown r hr).1)); clear hown' hgrow hown)
        go_roundw
        case rel => exact ⟨k + 1, by omega, by go_num, HO1.out, HB1.out⟩
        case measure => simp [intOf]; omega
    · obtain rfl : k = 8 := by omega
      have HO := Lib.hid hown
      have HB := Lib.hid hkw
      clear hown hkw
      go_wp2_with fail
      go_ret
      exact ⟨_, rfl, HO.out, HB.out⟩
theorem upL_lv (t : List I6) (out : List Int) : upL (lvL t out) 8 = liveL 8 t out := by
  unfold upL liveL
  rw [List.filter_congr (q := fun r : Nat => usedB t out r) (fun r hr => lvL_get t out r (by simpa using hr))]
end Go.Proofs.Ytjmmaaphadeokaa
